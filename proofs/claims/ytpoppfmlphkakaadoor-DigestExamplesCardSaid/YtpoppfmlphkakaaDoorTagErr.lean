/-
  TAGERR: Tag's errors; the law's 'again'.
-/
import Derived.Test.YtpoppfmlphkakaaDoorAlive
import Derived.Laws.OwnMore
import Derived.Deep.RegionHeld3
import Derived.Deep.DeepCutAuto
namespace Go.Proofs.YtpoppfmlphkakaaDoor
set_option linter.unusedVariables false
set_option linter.unusedSimpArgs false
set_option maxRecDepth 100000
open Go.RowKit

set_option maxHeartbeats 1600000 in
theorem tag_arg (A A2 : Option Addr) (m c m2 c2 : Nat) (w : World) (hm : m < 1 ∨ 64 < m) (hm2 : m ≤ 140737488351232) :
    Calls Tryd.prog 22 #[.slice A m c, .slice A2 m2 c2] w fun e w' => e = .returned (.tuple #[.agg (bv (List.replicate 32 0)).toArray, .int .i64 2]) ∧ Below w.heap.size w w' := by
  have hz32 := alloc32
  have HB0 := Lib.hid ((Below.refl w.heap.size w).alloc (Nat.le_refl _) (.cells zeros32 35))
  have BW := Lib.hid (Blk.new w 35 zeros32)
  rcases hm with h | h
  · obtain rfl : m = 0 := by omega
    clear h
    go_enter Tryd.func22, Tryd.ntmps22
    go_wp2_with (first | (with_reducible refine wpList_alloc_named rfl 35 rfl zeros32 hz32 ?_) | (refine wpList_store_row rfl 35 (.tmp 4) (.tmp 16) rfl w.heap.size zl32 rfl rfl 35 zeros32 BW.out zl32_info zl32_old zl32_one ?_))
    exact bodyPost_ret (results_row_tmp rfl _ _ w.heap.size 35 zl32 (0, 0) _ rfl (BW.out.row _) Tryd.underlying35 rfl zl32_info) rfl ⟨rfl, below_setRow HB0.out (Nat.le_refl _) _⟩
  · have t1 : decide ((m : Int) < 1) = false := by simp; omega
    have t2 : decide ((64 : Int) < (m : Int)) = true := by simp; omega
    clear h
    go_enter Tryd.func22, Tryd.ntmps22
    go_wp2_with (first | (with_reducible refine wpList_alloc_named rfl 35 rfl zeros32 hz32 ?_) | (refine wpList_store_row rfl 35 (.tmp 4) (.tmp 16) rfl w.heap.size zl32 rfl rfl 35 zeros32 BW.out zl32_info zl32_old zl32_one ?_))
    exact bodyPost_ret (results_row_tmp rfl _ _ w.heap.size 35 zl32 (0, 0) _ rfl (BW.out.row _) Tryd.underlying35 rfl zl32_info) rfl ⟨rfl, below_setRow HB0.out (Nat.le_refl _) _⟩

attribute [local go_sem ↓] execOp_storeH
attribute [local go_sem] run_storeH z10_at z10_drew
set_option maxHeartbeats 1600000 in
theorem keyed_many (A A2 : Option Addr) (m c m2 c2 : Nat) (p : UInt8) (key l : List UInt8) (w : World) (hr : Reads w w.heap.size 1 A m (bv key)) (hr2 : Reads w w.heap.size 1 A2 m2 (bv l)) (hm : m ≤ 64) (hm2 : 8128 < m2) (hm3 : m2 ≤ 140737488351232) (hrc : HasRc w) (hfs : HasFs w) :
    Calls Tryd.prog 44 #[.slice A m c, .int .u8 (p.toNat : Int), .slice A2 m2 c2] w fun e w' => e = .returned (.tuple #[.agg (bv (List.replicate 32 0)).toArray, .int .i64 4]) ∧ Below w.heap.size w w' := by
  have hlen : key.length = m := by have := hr.1; simpa using this
  have hz32 := alloc32
  have hzb := allocB
  have b0 : Blk ((w.alloc (.cells zeros32 35)).alloc (.cells zerosB 48)) w.heap.size 35 zeros32 := (Blk.new w _ _).alloc _
  have b1 : Blk ((w.alloc (.cells zeros32 35)).alloc (.cells zerosB 48)) (w.heap.size + 1) 48 zerosB := by
    have := Blk.new (w.alloc (.cells zeros32 35)) 48 zerosB
    simpa using this
  have hbel : Below w.heap.size w ((w.alloc (.cells zeros32 35)).alloc (.cells zerosB 48)) := ((Below.refl _ _).alloc (Nat.le_refl _) _).alloc (by simp) _
  have hrk := hr.below hbel
  have HL := Lib.hid hlen; have B0 := Lib.hid b0; have B1 := Lib.hid b1; have BB := Lib.hid hbel; have HRK := Lib.hid hrk; have HR2 := Lib.hid hr2; have HRC := Lib.hid hrc; have HFS := Lib.hid hfs
  clear hlen b0 b1 hbel hrk hr hr2 hrc hfs
  go_enter Tryd.func44, Tryd.ntmps44
  go_wp2_with (first | (with_reducible refine wpList_alloc_named rfl 35 rfl zeros32 hz32 ?_) | (with_reducible refine wpList_alloc_named rfl 48 rfl zerosB hzb ?_) | (refine wpList_copy_arr rfl (.tmp 12) (.tmp 13) 22 22 rfl 5 Tryd.underlying22 size5 (w.heap.size + 1) 64 64 A m c (by simp [Act.eval, Act.put]) (by simp [Act.eval, Act.put]) 48 zerosB B1.out zerosB_size w.heap.size (bv key) HRK.out (bv_oneCell _) ?_; intro w4 hb4 hg4))
  rw [key64_copy key HL.out hm] at hb4
  obtain ⟨X, hX⟩ : ∃ X, X = key64 key := ⟨_, rfl⟩
  have hXl : X.length = 64 := by rw [hX, key64_length (by rw [HL.out]; exact hm)]
  rw [← hX, ← xr_zero X p] at hb4
  have h40 : Blk w4 w.heap.size 35 zeros32 := B0.out.grown hg4 (fun e => by injection e with e; omega)
  have hw4 : Below w.heap.size w w4 := BB.out.grown hg4 BB.out.size (fun g h => by injection h with h; omega)
  have M4 := Lib.hid hb4; have M0 := Lib.hid h40; have MB := Lib.hid hw4; have HX := Lib.hid hX; have XL := Lib.hid hXl
  clear hb4 hg4 h40 hw4 hX hXl B0 B1 BB HRK
  go_wp2_with fail
  go_loopw [15] (fun i wr => ∃ k : Nat, k ≤ 64 ∧ i = .int .i64 (k : Int) ∧ Hid (Blk wr (w.heap.size + 1) 48 (bv (xr X p k)).toArray) ∧ Hid (Blk wr w.heap.size 35 zeros32) ∧ Below w.heap.size w wr)
    (fun i _ => 64 - (intOf i).toNat)
  case atStart => exact ⟨0, Nat.zero_le _, rfl, M4, M0, MB.out⟩
  case round =>
    obtain ⟨k, hk, rfl, hB1, hB0, hnx⟩ := hrel
    clear M4 M0 MB
    by_cases hlt : k < 64
    · obtain ⟨x, hx⟩ : ∃ x, X[k]? = some x := ⟨_, List.getElem?_eq_getElem (by rw [XL.out]; exact hlt)⟩
      have hcell : wr.cell? ⟨w.heap.size + 1, k, none⟩ = some (.int .u8 (x.toNat : Int)) := hB1.out.cellv k (by rw [List.getElem?_toArray, bv, List.getElem?_map, xr_at X p hx]; rfl)
      have hfz := hB1.out.frozen k
      have hset := hB1.out.set_ k (u8v (x ^^^ p))
      rw [List.setIfInBounds_toArray, bv_set, xr_set X p hx] at hset
      unfold u8v at hset
      rw [← xor_byte] at hset
      have T1 := Lib.hid hset
      clear hset hx
      go_wp2_with fail
      go_roundw
      case rel => exact ⟨k + 1, by omega, by go_num, Lib.hid T1.out, Lib.hid (hB0.out.far (by show _ ≠ w.heap.size + 1; omega) _), hnx.setCell (by show _ ≤ w.heap.size + 1; omega) _⟩
      case measure => simp [intOf]; omega
    · have hk64 : k = 64 := by omega
      rw [hk64, xr_full X p (by rw [XL.out]; exact Nat.le_refl _)] at hB1
      clear hk64
      have hbb := hB1.out
      have hlt1 := hbb.lt
      obtain ⟨Xp, hXp⟩ : ∃ Xp, Xp = X.map (· ^^^ p) := ⟨_, rfl⟩
      have hXpl : Xp.length = 64 := by rw [hXp, List.length_map, XL.out]
      rw [← hXp] at hbb
      have hszr := hnx.size
      have ST := Lib.hid (fun (w' : World) (hbel : Below wr.heap.size wr w') hle => start_two wr w' hbel hle ((HFS.out.below hnx HFS.out.1).below hbel (Nat.le_trans HFS.out.1 hszr)))
      have WT := Lib.hid (fun (w' : World) (hbel : Below wr.heap.size wr w') hle => write_two iv none (some ⟨w.heap.size + 1, 0, none⟩) 0 0 0 64 64 [] Xp wr w' hbel hle iv_ok Reads.none_ (hXpl ▸ (Blk.reads (hbb.below hbel hlt1) (Nat.lt_of_lt_of_le hlt1 hle))) (by omega) (by decide) (by omega) (by omega) ((HRC.out.below hnx HRC.out.1).below hbel (Nat.le_trans HRC.out.1 hszr)))
      have HXP := Lib.hid hXp; have XPL := Lib.hid hXpl; have HBB := Lib.hid hbb
      clear hXp hXpl hbb hB1
      generalize hh0 : hashV iv (.slice none 0 0) 0 = h0 at ST WT
      have HH0 := Lib.hid hh0
      clear hh0
      go_upto_region 8 with fail
      go_cut [10, 11] (fun s10 s11 wx => ∃ (g : Nat) (V : Array Value) (S' : St) (A' : Option Addr) (c' : Nat), s10 = .pointer (some ⟨g, 0, none⟩) ∧ s11 = .int .i64 0 ∧ IsH V ∧ Hid (V = hashV S' (.slice A' ((0 + 64) % 64) c') (0 + 64)) ∧ Hid (S' = absorbed iv ([] ++ Xp) ((0 + 64) / 64)) ∧ Hid (Blk wx g 42 V) ∧ wr.heap.size ≤ g ∧ Below wr.heap.size wr wx)
      case first =>
        go_region_held3 (fun w' => Below wr.heap.size wr w')
          (first
            | exact Below.drew (Below.refl _ _)
            | (repeat (first | (with_reducible assumption) | (with_reducible exact Below.refl _ _) | (with_reducible refine bk_drew ?_) | (with_reducible refine bk_alloc ?_ _) | (with_reducible refine bk_setRow ?_ _ _ (by first | exact Nat.le_refl _ | exact Nat.le_succ _ | exact hb1'.size | exact hb2'.size)))))
          (first
            | (go_at_call 24
               refine (ST.out _ (by repeat (first | (with_reducible assumption) | (with_reducible exact Below.refl _ _) | (with_reducible refine bk_drew ?_) | (with_reducible refine bk_alloc ?_ _))) (by refine Below.size (B := wr.heap.size) ?_; repeat (first | (with_reducible assumption) | (with_reducible exact Below.refl _ _) | (with_reducible refine bk_drew ?_) | (with_reducible refine bk_alloc ?_ _)))).mono ?_
               rintro e w1 ⟨rfl, hb1', hb1w⟩
               (first
               | (refine have_ (P := Z10 w1 wr.heap.size) ?_ ?_
                  · (refine Z10.below ?_ hb1w; repeat (first | (with_reducible exact z10_new _ rfl) | (with_reducible refine Z10.drew ?_)))
                  intro ZP)
               | skip))
            | (go_at_call 23
               refine (WT.out _ (by repeat (first | (with_reducible assumption) | (with_reducible exact Below.refl _ _) | (with_reducible refine bk_drew ?_) | (with_reducible refine bk_alloc ?_ _))) (by refine Below.size (B := wr.heap.size) ?_; repeat (first | (with_reducible assumption) | (with_reducible exact Below.refl _ _) | (with_reducible refine bk_drew ?_) | (with_reducible refine bk_alloc ?_ _)))).mono ?_
               rintro e w2 ⟨V, S', A', c', hV, hVe, hS', rfl, hr2, hin2, hb2', hb2w⟩
               (first
               | (refine have_ (P := Z10 w2 wr.heap.size) ?_ ?_
                  · (refine Z10.below ?_ hb2w; repeat (first | (with_reducible exact ZP) | (with_reducible refine Z10.drew ?_)))
                  intro ZK)
               | (refine have_ (P := Z10 w2 w1.heap.size) ?_ ?_
                  · (refine Z10.below ?_ hb2w; repeat (first | (with_reducible exact z10_new _ rfl) | (with_reducible refine Z10.drew ?_)))
                  intro ZK)
               | skip)))
        all_goals (go_wp2_with fail; go_split_ands; go_meet; exact ⟨_, V, S', A', c', rfl, rfl, hV, hVe, hS', Lib.hid (by first | exact Blk.row ZK _ | exact Blk.row (z10_new _ rfl) _), (by first | exact Nat.le_refl _ | exact hb1'.size | exact hb2'.size), (by assumption)⟩)
      case rest =>
        obtain ⟨g, V, S', A', c', rfl, rfl, hV, hVe, hS', hBV, hg, hbc⟩ := hcut
        have hVi : (Tryd.prog.info? 42).map (·.size) = some V.size := by rw [sizeH, hV.size]
        have hl2 : l.length = m2 := by have := HR2.out.1; simpa using this
        have hwc : Below w.heap.size w wc := hnx.trans (hbc.mono hszr)
        have hrcc := HRC.out.below hwc HRC.out.1
        have hS'ok : S'.ok := by rw [hS'.out]; exact absorbed_ok iv_ok _ _
        have hwr2 := write_many S' A' A2 0 c' 64 m2 c2 wc (by omega) (by omega) (by decide) (by omega) (by omega) hm3
        rw [show hashV S' (.slice A' 0 c') 64 = V from hVe.out.symm] at hwr2
        have VI := Lib.hid hVi; have W2 := Lib.hid hwr2; have HL2 := Lib.hid hl2; have HWC := Lib.hid hwc; have HRCC := Lib.hid hrcc; have SOK := Lib.hid hS'ok
        have hB0c := Lib.hid (hB0.out.below hbc hB0.out.lt)
        clear hVi hwr2 hl2 hwc hrcc hS'ok
        go_wp2_with (first | (refine wpList_load_row rfl 42 (.tmp 10) rfl g rfl 42 V (0, 0) _ hBV.out Tryd.underlying42 rfl VI.out ?_))
        refine (W2.out).mono ?_
        rintro e w2 ⟨rfl, hb2⟩
        have hgl := hBV.out.lt
        have hbg2 := hBV.out.below hb2 hgl
        have hr02 := hB0c.out.below hb2 hB0c.out.lt
        have hgw : w.heap.size ≤ g := Nat.le_trans hszr hg
        have hg0 : w.heap.size ≠ g := by have := hB0.out.lt; omega
        have hih : (Tryd.prog.info? 42).map (·.size) = some (hashV st0 (.slice none 0 0) 0).size := by rw [sizeH, hashV_size]
        have hoh : V.size = (hashV st0 (.slice none 0 0) 0).size := by rw [hV.size, hashV_size]
        have h1h := hashV_one st0 none 0 0 0
        generalize hashV st0 (.slice none 0 0) 0 = V2 at hih hoh h1h ⊢
        have hbW : Below w.heap.size w (w2.setRow g V2) := below_setRow (HWC.out.trans (hb2.mono HWC.out.size)) hgw _
        have hrW := hr02.rowFar hg0 V2
        have F1 := Lib.hid hbg2; have F3 := Lib.hid hih; have F4 := Lib.hid hoh; have F5 := Lib.hid h1h; have F6 := Lib.hid hbW; have F7 := Lib.hid hrW
        clear hbg2 hr02 hih hoh h1h hbW hrW hb2
        go_wp2_with (first | (refine wpList_store_row rfl 42 (.tmp 10) (.tmp 39) rfl g V2 rfl rfl 42 V F1.out F3.out F4.out F5.out ?_) | (refine wpList_store_row rfl 35 (.tmp 6) (.tmp 43) rfl w.heap.size zl32 rfl rfl 35 zeros32 F7.out zl32_info zl32_old zl32_one ?_))
        exact bodyPost_ret (results_row_tmp rfl _ _ w.heap.size 35 zl32 (0, 0) _ rfl (F7.out.row _) Tryd.underlying35 rfl zl32_info) rfl ⟨rfl, below_setRow F6.out (Nat.le_refl _) _⟩
set_option maxHeartbeats 1600000 in
theorem tag_many (A A2 : Option Addr) (m c m2 c2 : Nat) (key l : List UInt8) (w : World) (hr : Reads w w.heap.size 1 A m (bv key)) (hr2 : Reads w w.heap.size 1 A2 m2 (bv l)) (hm0 : 1 ≤ m) (hm : m ≤ 64) (hm2 : 8128 < m2) (hm3 : m2 ≤ 140737488351232) (hrc : HasRc w) (hfs : HasFs w) :
    Calls Tryd.prog 22 #[.slice A m c, .slice A2 m2 c2] w fun e w' => e = .returned (.tuple #[.agg (bv (List.replicate 32 0)).toArray, .int .i64 4]) ∧ Below w.heap.size w w' := by
  have hz32 := alloc32
  have hb0 : Below w.heap.size w (w.alloc (.cells zeros32 35)) := (Below.refl _ _).alloc (Nat.le_refl _) _
  have b0 := Blk.new w 35 zeros32
  have hk1 := keyed_many A A2 m c m2 c2 54 key l (w.alloc (.cells zeros32 35)) ((hr.below hb0).more hb0.size) ((hr2.below hb0).more hb0.size) hm hm2 hm3 (hrc.below hb0 hrc.1) (hfs.below hb0 hfs.1)
  have K1 := Lib.hid hk1; have HB0 := Lib.hid hb0; have B0 := Lib.hid b0; have HR := Lib.hid hr; have HRC := Lib.hid hrc; have HFS := Lib.hid hfs
  have t1 : decide ((m : Int) < 1) = false := by simp; omega
  have t2 : decide ((64 : Int) < (m : Int)) = false := by simp; omega
  clear hk1 hb0 b0 hr hr2 hrc hfs
  go_enter Tryd.func22, Tryd.ntmps22
  go_wp2_with (first | (with_reducible refine wpList_alloc_named rfl 35 rfl zeros32 hz32 ?_))
  refine K1.out.mono ?_
  rintro e w1 ⟨rfl, hb1⟩
  have hw1 : Below w.heap.size w w1 := HB0.out.trans (hb1.mono HB0.out.size)
  have b1 := B0.out.below hb1 B0.out.lt
  have hbW : Below w.heap.size w ((w1.alloc (.cells zeros32 35)).setRow w1.heap.size zl32) := below_setRow (hw1.alloc hw1.size _) hw1.size _
  have bW := (b1.alloc (.cells zeros32 35)).rowFar (g' := w1.heap.size) (by have := b1.lt; omega) zl32
  have BI := Lib.hid (Blk.new w1 35 zeros32); have HW := Lib.hid hbW; have BWW := Lib.hid bW
  clear hw1 b1 hbW bW hb1 K1 HB0 B0 HR HRC HFS
  go_wp2_with (first | (with_reducible refine wpList_alloc_named rfl 35 rfl zeros32 hz32 ?_) | (refine wpList_store_row rfl 35 (.tmp 6) (.tmp 21) rfl w1.heap.size zl32 rfl rfl 35 zeros32 BI.out zl32_info zl32_old zl32_one ?_) | (refine wpList_store_row rfl 35 (.tmp 4) (.tmp 25) rfl w.heap.size zl32 rfl rfl 35 zeros32 BWW.out zl32_info zl32_old zl32_one ?_))
  exact bodyPost_ret (results_row_tmp rfl _ _ w.heap.size 35 zl32 (0, 0) _ rfl (BWW.out.row _) Tryd.underlying35 rfl zl32_info) rfl ⟨rfl, below_setRow HW.out (Nat.le_refl _) _⟩
theorem set_rep (x : UInt8) (n k : Nat) (hk : k < n) : (List.replicate k x ++ List.replicate (n - k) 0).set k x = List.replicate (k + 1) x ++ List.replicate (n - (k + 1)) 0 := by
  apply List.ext_getElem?
  intro j
  by_cases h1 : j = k
  · subst h1
    rw [List.getElem?_set_self (by simp; omega), List.getElem?_append_left (by simp)]
    simp
  · rw [List.getElem?_set_ne (fun e => h1 e.symm)]
    by_cases h2 : j < k
    · rw [List.getElem?_append_left (by simpa using h2), List.getElem?_append_left (by simp; omega)]
      simp [h2, show j < k + 1 by omega]
    · rw [List.getElem?_append_right (by simp; omega), List.getElem?_append_right (by simp; omega)]
      simp only [List.length_replicate, List.getElem?_replicate]
      by_cases h3 : j - k < n - k
      · rw [if_pos h3, if_pos (by omega)]
      · rw [if_neg h3, if_neg (by omega)]
set_option maxHeartbeats 1600000 in
theorem again_any (x : UInt8) (n : Nat) (w : World) (h0 : 1 ≤ n) (hn : n ≤ 1000) :
    Calls Tryd.prog 20 #[.int .u8 (x.toNat : Int), .int .i64 (n : Int)] w fun e w' => e = .returned (.string ⟨(List.replicate n x).toArray⟩) ∧ Below w.heap.size w w' := by
  obtain ⟨i0, hi, hz0, hz1, hz2⟩ := info_parts u8_info
  have hmk := fun W : World => run_make (P := Tryd.prog) W 22 5 i0 (.int .u8 0) Tryd.underlying22 hi hz0 .i64 .i64 (n : Int) (n : Int) (by omega) (by omega) (by rw [hz2]; omega) (by omega)
  rw [hz1] at hmk
  simp only [Int.toNat_natCast, Nat.mul_one, Value.cells] at hmk
  have hown := World.ownsRow_lit (e := 5) (base := w.heap.size) (size := 1) w (madeCells #[Value.int .u8 0] n) n (Nat.le_refl _) (by unfold maxLen; omega) (by rw [Nat.mul_one]; exact size_madeCells _ _)
  rw [toList_madeCells_one, show List.replicate n (Value.int .u8 0) = bv (List.replicate 0 x ++ List.replicate (n - 0) 0) from by simp [bv, u8v]] at hown
  have HO := Lib.hid hown
  have HB := Lib.hid ((Below.refl w.heap.size w).alloc (Nat.le_refl _) (.cells (madeCells #[Value.int .u8 0] n) 5))
  clear hi hz0 hz1 hz2 hown
  go_enter Tryd.func20, Tryd.ntmps20
  go_wp2
  clear hmk
  generalize World.alloc _ _ = X at HO HB ⊢
  go_loopw [6] (fun i wr => ∃ k : Nat, k ≤ n ∧ i = .int .i64 (k : Int) ∧ Hid (wr.ownsRow w.heap.size 5 1 (.slice (some ⟨w.heap.size, 0, none⟩) n n) n (bv (List.replicate k x ++ List.replicate (n - k) 0))) ∧ Hid (Below w.heap.size w wr)) (fun i _ => n - (intOf i).toNat)
  case atStart => exact ⟨0, Nat.zero_le _, rfl, HO, HB⟩
  case round =>
    obtain ⟨k, hk, rfl, hO, hB⟩ := hrel
    clear HO HB
    have k0 : (0 : Int) ≤ (k : Int) := by omega
    by_cases hlt : k < n
    · have k1 : (k : Int) < (n : Int) := by omega
      obtain ⟨y, hy⟩ : ∃ y, (List.replicate k x ++ List.replicate (n - k) (0 : UInt8))[k]? = some y := ⟨_, List.getElem?_eq_getElem (by simp; omega)⟩
      have hcell : wr.cell? ⟨w.heap.size, k, none⟩ = some (.int .u8 (y.toNat : Int)) := by rw [hO.out.cellAt k (by omega)]; simp only [bv, List.getElem?_map, hy]; rfl
      have hfz := hO.out.frozenAt k
      have hst := (hO.out.stored k (u8v x)).1
      rw [bv_set, set_rep x n k hlt] at hst
      have HS := Lib.hid hst
      have HN := Lib.hid (hB.out.setCell (p := ⟨w.heap.size, k, none⟩) (Nat.le_refl _) (u8v x))
      clear hst hy
      unfold u8v at HS HN
      go_wp2
      go_roundw
      case rel => exact ⟨k + 1, by omega, by go_num, HS, HN⟩
      case measure => simp [intOf]; omega
    · have hkn : k = n := by omega
      have hO' := hO.out
      rw [hkn, show n - n = 0 from by omega, List.replicate_zero, List.append_nil] at hO'
      have q1 := run_str (P := Tryd.prog) 22 5 9 Tryd.underlying22 Tryd.underlying5 Tryd.underlying9 (c := n) (Reads.of_own hO')
      clear hO' hO
      subst hkn
      go_wp2
      go_ret
      exact ⟨rfl, hB.out⟩
end Go.Proofs.YtpoppfmlphkakaaDoor
