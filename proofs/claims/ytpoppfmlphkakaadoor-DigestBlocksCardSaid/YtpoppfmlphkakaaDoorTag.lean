/-
  TAG: the contracts of digest.keyed, Tag and Verify.
-/
import Derived.Test.YtpoppfmlphkakaaDoorSum
import Derived.Deep.RegionHeld3
import Derived.Deep.DeepCutAuto
namespace Go.Proofs.YtpoppfmlphkakaaDoor
set_option linter.unusedVariables false
set_option linter.unusedSimpArgs false
set_option maxRecDepth 100000
open Go.RowKit

/-- The key with zero bytes up to 64, the first i combined with a pad. -/
def xr (X : List UInt8) (p : UInt8) (i : Nat) : List UInt8 := (X.take i).map (· ^^^ p) ++ X.drop i
theorem xr_length (X : List UInt8) (p : UInt8) (i : Nat) : (xr X p i).length = X.length := by simp [xr]; omega
theorem xr_zero (X : List UInt8) (p : UInt8) : xr X p 0 = X := by simp [xr]
theorem xr_full (X : List UInt8) (p : UInt8) {i : Nat} (h : X.length ≤ i) : xr X p i = X.map (· ^^^ p) := by simp [xr, List.take_of_length_le h, List.drop_of_length_le h]
theorem xr_at (X : List UInt8) (p : UInt8) {i : Nat} {x : UInt8} (h : X[i]? = some x) : (xr X p i)[i]? = some x := by
  have hi : i < X.length := (List.getElem?_eq_some_iff.1 h).1
  rw [xr, List.getElem?_append_right (by simp; omega)]
  simp [Nat.min_eq_left (Nat.le_of_lt hi), h]
theorem xr_set (X : List UInt8) (p : UInt8) {i : Nat} {x : UInt8} (h : X[i]? = some x) : (xr X p i).set i (x ^^^ p) = xr X p (i + 1) := by
  have hi : i < X.length := (List.getElem?_eq_some_iff.1 h).1
  have hx : X.drop i = x :: X.drop (i + 1) := by
    rw [List.drop_eq_getElem_cons hi]
    congr 1
    exact (List.getElem?_eq_some_iff.1 h).2
  unfold xr
  rw [List.set_append_right _ _ (by simp; omega), hx, List.take_add_one, h]
  simp [Nat.min_eq_left (Nat.le_of_lt hi)]
/-- The key in 64 bytes. -/
def key64 (key : List UInt8) : List UInt8 := key ++ List.replicate (64 - key.length) 0
theorem key64_length {key : List UInt8} (h : key.length ≤ 64) : (key64 key).length = 64 := by simp [key64]; omega
theorem key64_copy (key : List UInt8) {m : Nat} (hl : key.length = m) (hm : m ≤ 64) : (List.take 64 (bv key) ++ zerosB.toList.drop (min m 64)).toArray = (bv (key64 key)).toArray := by
  rw [zerosB_list, List.take_of_length_le (by rw [bv_length]; omega), bv_drop, Nat.min_eq_left hm, ← bv_append]
  unfold key64
  rw [hl, List.drop_replicate]
theorem xor_byte (x p : UInt8) : bits .xor .u8 (x.toNat : Int) (p.toNat : Int) = ((x ^^^ p).toNat : Int) := by
  rw [u8_xor_nat x.toNat p.toNat x.toNat_lt p.toNat_lt, UInt8.toNat_xor]

theorem Blk.reads {w : World} {g B : Nat} {t : TypeId} {l : List UInt8} (h : Blk w g t (bv l).toArray) (hB : g < B) : Reads w B 1 (some ⟨g, 0, none⟩) l.length (bv l) :=
  ⟨by simp, fun _ => ⟨_, rfl, hB, fun j u hu => by rw [add_zero_off]; exact h.cellv j (by simpa using hu)⟩⟩

/-! ### a hash stored whole, in a region that draws -/
def Z10 (w : World) (g : Nat) : Prop := Blk w g 42 #[.int .u32 0, .int .u32 0, .int .u32 0, .int .u32 0, .int .u32 0, .int .u32 0, .int .u32 0, .int .u32 0, .slice none 0 0, .int .u64 0]
theorem z10_new (W : World) {g : Nat} (hg : g = W.heap.size) : Z10 (W.alloc (.cells #[.int .u32 0, .int .u32 0, .int .u32 0, .int .u32 0, .int .u32 0, .int .u32 0, .int .u32 0, .int .u32 0, .slice none 0 0, .int .u64 0] 42)) g := by
  subst hg
  exact Blk.new W _ _
theorem Z10.drew {w : World} {g : Nat} (h : Z10 w g) : Z10 w.drew g := h
theorem Z10.below {w w' : World} {g : Nat} (h : Z10 w g) (hb : Below w.heap.size w w') : Z10 w' g := Blk.below h hb (Blk.lt h)
theorem Z10.alloc {w : World} {g : Nat} (h : Z10 w g) (o : Obj) : Z10 (w.alloc o) g := Blk.alloc h o
structure IsH (V : Array Value) : Prop where
  size : V.size = 10
  one : V.all (·.oneCell') = true
theorem IsH.mk' (s : St) (A : Option Addr) (m c n : Nat) : IsH (hashV s (.slice A m c) n) := ⟨rfl, hashV_one s A m c n⟩
@[irreducible] def storeH (p v : Value) : Sem Unit := Instr.storeAt 42 p v
theorem execOp_storeH (ρ : Operand → Value) (dst : Option Tmp) (x y : Operand) (ty : TypeId) (pos : String) (after : Array Edge) (guard : Option (Nat × Bool)) :
    execOp ρ { dst, op := .store 42 x y, type := ty, pos, after, guard } = (do storeH (ρ x) (ρ y); pure .skip) := by unfold storeH; rfl
theorem run_storeH (w : World) (g : Nat) (V : Array Value) (h : Z10 w g) (hV : IsH V) :
    (storeH (.pointer (some ⟨g, 0, none⟩)) (.agg V)).run Tryd.prog w = .ok () (w.setRow g V) := by
  unfold storeH
  simp only [Instr.storeAt, Instr.sureAddr, Sem.run_bind, Sem.run_pure, Result.andThen_ok]
  exact run_storeVar_row w g 42 42 _ _ h (by rw [sizeH, hV.size]) (by rw [hV.size]; rfl) hV.one
theorem z10_at (w : World) : Z10 (w.alloc (.cells #[.int .u32 0, .int .u32 0, .int .u32 0, .int .u32 0, .int .u32 0, .int .u32 0, .int .u32 0, .int .u32 0, .slice none 0 0, .int .u64 0] 42)) w.heap.size = True := eq_true (z10_new w rfl)
theorem z10_drew (w : World) (g : Nat) : Z10 w.drew g = Z10 w g := rfl

/-- 'Write' onto a hash, at a later world. -/
theorem write_two (s : St) (A A2 : Option Addr) (m c n m2 c2 : Nat) (t b : List UInt8) (w0 w' : World) (hbel : Below w0.heap.size w0 w') (hle : w0.heap.size ≤ w'.heap.size) (hs0 : s.ok) (hrt : Reads w' w'.heap.size 1 A m (bv t)) (hrb : Reads w' w'.heap.size 1 A2 m2 (bv b)) (hm : m ≤ 64) (h0 : checkE m n = 0) (hx : ¬ (8192 : Int) - n < m2) (hn2 : n ≤ 8192) (hrc : HasRc w') :
    Calls Tryd.prog 23 #[.agg (hashV s (.slice A m c) n), .slice A2 m2 c2] w' fun e w'' =>
      ∃ (V : Array Value) (S' : St) (A' : Option Addr) (c' : Nat), IsH V ∧ Hid (V = hashV S' (.slice A' ((m + m2) % 64) c') (n + m2)) ∧ Hid (S' = absorbed s (t ++ b) ((m + m2) / 64)) ∧ e = .returned (.tuple #[.agg V, .int .i64 0]) ∧
        Hid (Reads w'' w''.heap.size 1 A' ((m + m2) % 64) (bv ((t ++ b).drop (64 * ((m + m2) / 64))))) ∧ Hid (In w'.heap.size w''.heap.size A') ∧ Below w0.heap.size w0 w'' ∧ Below w'.heap.size w' w'' := by
  refine (write_ok s A A2 m c n m2 c2 t b w' hs0 hrt hrb hm h0 hx hn2 hrc).mono ?_
  rintro e w'' ⟨S', A', c', hS', rfl, hr', hin, _, _, hb⟩
  exact ⟨_, S', A', c', IsH.mk' _ _ _ _ _, Lib.hid rfl, hS', rfl, Lib.hid hr', Lib.hid hin, hbel.trans (hb.mono hle), hb⟩
theorem start_two (w0 w' : World) (hbel : Below w0.heap.size w0 w') (hle : w0.heap.size ≤ w'.heap.size) (hfs : HasFs w') :
    Calls Tryd.prog 24 #[] w' fun e w'' => e = .returned (.agg (hashV iv (.slice none 0 0) 0)) ∧ Below w0.heap.size w0 w'' ∧ Below w'.heap.size w' w'' := by
  refine (start_any w' hfs).mono ?_
  rintro e w'' ⟨rfl, hb⟩
  exact ⟨rfl, hbel.trans (hb.mono hle), hb⟩

/-- The digest of 64 bytes and more bytes, as the walk comes to it. -/
def keyedS (Xp l : List UInt8) : St := absorbed (absorbed iv Xp 1) l (l.length / 64)
def keyedB (Xp l : List UInt8) : List UInt8 :=
  sumBytes (absorbed (keyedS Xp l) (l.drop (64 * (l.length / 64)) ++ padBytes (64 + l.length)) ((l.length % 64 + (padBytes (64 + l.length)).length) / 64))
theorem keyedB_length (Xp l : List UInt8) : (keyedB Xp l).length = 32 := by unfold keyedB; rw [sumBytes_length]

attribute [local go_sem ↓] execOp_storeH
attribute [local go_sem] run_storeH z10_at z10_drew

set_option maxHeartbeats 1600000 in
theorem keyed_ok (A A2 : Option Addr) (m c m2 c2 : Nat) (p : UInt8) (key l : List UInt8) (w : World) (hr : Reads w w.heap.size 1 A m (bv key)) (hr2 : Reads w w.heap.size 1 A2 m2 (bv l)) (hm : m ≤ 64) (hm2 : m2 ≤ 8128) (hrc : HasRc w) (hfs : HasFs w) :
    Calls Tryd.prog 44 #[.slice A m c, .int .u8 (p.toNat : Int), .slice A2 m2 c2] w fun e w' => e = .returned (.tuple #[.agg (bv (keyedB ((key64 key).map (· ^^^ p)) l)).toArray, .int .i64 0]) ∧ Below w.heap.size w w' := by
  have hlen : key.length = m := by have := hr.1; simpa using this
  have hz32 := alloc32
  have hzb := allocB
  have b0 : Blk ((w.alloc (.cells zeros32 35)).alloc (.cells zerosB 48)) w.heap.size 35 zeros32 := (Blk.new w _ _).alloc _
  have b1 : Blk ((w.alloc (.cells zeros32 35)).alloc (.cells zerosB 48)) (w.heap.size + 1) 48 zerosB := by
    have := Blk.new (w.alloc (.cells zeros32 35)) 48 zerosB
    simpa using this
  have hbel : Below w.heap.size w ((w.alloc (.cells zeros32 35)).alloc (.cells zerosB 48)) := ((Below.refl _ _).alloc (Nat.le_refl _) _).alloc (by simp) _
  have hrk := hr.below hbel
  have HL := Lib.hid hlen; have B0 := Lib.hid b0; have B1 := Lib.hid b1; have BB := Lib.hid hbel; have HRK := Lib.hid hrk; have HR2 := Lib.hid hr2; have HRC := Lib.hid hrc; have HFS := Lib.hid hfs
  clear hlen b0 b1 hbel hrk hr hr2 hrc hfs
  go_enter Tryd.func44, Tryd.ntmps44
  go_wp2_with (first | (with_reducible refine wpList_alloc_named rfl 35 rfl zeros32 hz32 ?_) | (with_reducible refine wpList_alloc_named rfl 48 rfl zerosB hzb ?_) | (refine wpList_copy_arr rfl (.tmp 12) (.tmp 13) 22 22 rfl 5 Tryd.underlying22 size5 (w.heap.size + 1) 64 64 A m c (by simp [Act.eval, Act.put]) (by simp [Act.eval, Act.put]) 48 zerosB B1.out zerosB_size w.heap.size (bv key) HRK.out (bv_oneCell _) ?_; intro w4 hb4 hg4))
  rw [key64_copy key HL.out hm] at hb4
  obtain ⟨X, hX⟩ : ∃ X, X = key64 key := ⟨_, rfl⟩
  have hXl : X.length = 64 := by rw [hX, key64_length (by rw [HL.out]; exact hm)]
  rw [← hX, ← xr_zero X p] at hb4
  have h40 : Blk w4 w.heap.size 35 zeros32 := B0.out.grown hg4 (fun e => by injection e with e; omega)
  have hw4 : Below w.heap.size w w4 := BB.out.grown hg4 BB.out.size (fun g h => by injection h with h; omega)
  have M4 := Lib.hid hb4; have M0 := Lib.hid h40; have MB := Lib.hid hw4; have HX := Lib.hid hX; have XL := Lib.hid hXl
  clear hb4 hg4 h40 hw4 hX hXl B0 B1 BB HRK
  go_wp2_with fail
  go_loopw [15] (fun i wr => ∃ k : Nat, k ≤ 64 ∧ i = .int .i64 (k : Int) ∧ Hid (Blk wr (w.heap.size + 1) 48 (bv (xr X p k)).toArray) ∧ Hid (Blk wr w.heap.size 35 zeros32) ∧ Below w.heap.size w wr)
    (fun i _ => 64 - (intOf i).toNat)
  case atStart => exact ⟨0, Nat.zero_le _, rfl, M4, M0, MB.out⟩
  case round =>
    obtain ⟨k, hk, rfl, hB1, hB0, hnx⟩ := hrel
    clear M4 M0 MB
    by_cases hlt : k < 64
    · obtain ⟨x, hx⟩ : ∃ x, X[k]? = some x := ⟨_, List.getElem?_eq_getElem (by rw [XL.out]; exact hlt)⟩
      have hcell : wr.cell? ⟨w.heap.size + 1, k, none⟩ = some (.int .u8 (x.toNat : Int)) := hB1.out.cellv k (by rw [List.getElem?_toArray, bv, List.getElem?_map, xr_at X p hx]; rfl)
      have hfz := hB1.out.frozen k
      have hset := hB1.out.set_ k (u8v (x ^^^ p))
      rw [List.setIfInBounds_toArray, bv_set, xr_set X p hx] at hset
      unfold u8v at hset
      rw [← xor_byte] at hset
      have T1 := Lib.hid hset
      clear hset hx
      go_wp2_with fail
      go_roundw
      case rel => exact ⟨k + 1, by omega, by go_num, Lib.hid T1.out, Lib.hid (hB0.out.far (by show _ ≠ w.heap.size + 1; omega) _), hnx.setCell (by show _ ≤ w.heap.size + 1; omega) _⟩
      case measure => simp [intOf]; omega
    · have hk64 : k = 64 := by omega
      rw [hk64, xr_full X p (by rw [XL.out]; exact Nat.le_refl _)] at hB1
      clear hk64
      have hbb := hB1.out
      have hlt1 := hbb.lt
      obtain ⟨Xp, hXp⟩ : ∃ Xp, Xp = X.map (· ^^^ p) := ⟨_, rfl⟩
      have hXpl : Xp.length = 64 := by rw [hXp, List.length_map, XL.out]
      rw [← hXp] at hbb
      have hszr := hnx.size
      have ST := Lib.hid (fun (w' : World) (hbel : Below wr.heap.size wr w') hle => start_two wr w' hbel hle ((HFS.out.below hnx HFS.out.1).below hbel (Nat.le_trans HFS.out.1 hszr)))
      have WT := Lib.hid (fun (w' : World) (hbel : Below wr.heap.size wr w') hle => write_two iv none (some ⟨w.heap.size + 1, 0, none⟩) 0 0 0 64 64 [] Xp wr w' hbel hle iv_ok Reads.none_ (hXpl ▸ (Blk.reads (hbb.below hbel hlt1) (Nat.lt_of_lt_of_le hlt1 hle))) (by omega) (by decide) (by omega) (by omega) ((HRC.out.below hnx HRC.out.1).below hbel (Nat.le_trans HRC.out.1 hszr)))
      have HXP := Lib.hid hXp; have XPL := Lib.hid hXpl; have HBB := Lib.hid hbb
      clear hXp hXpl hbb hB1
      generalize hh0 : hashV iv (.slice none 0 0) 0 = h0 at ST WT
      have HH0 := Lib.hid hh0
      clear hh0
      go_upto_region 8 with fail
      go_cut [10, 11] (fun s10 s11 wx => ∃ (g : Nat) (V : Array Value) (S' : St) (A' : Option Addr) (c' : Nat), s10 = .pointer (some ⟨g, 0, none⟩) ∧ s11 = .int .i64 0 ∧ IsH V ∧ Hid (V = hashV S' (.slice A' ((0 + 64) % 64) c') (0 + 64)) ∧ Hid (S' = absorbed iv ([] ++ Xp) ((0 + 64) / 64)) ∧ Hid (Blk wx g 42 V) ∧ wr.heap.size ≤ g ∧ Below wr.heap.size wr wx)
      case first =>
        go_region_held3 (fun w' => Below wr.heap.size wr w')
          (first
            | exact Below.drew (Below.refl _ _)
            | (repeat (first | (with_reducible assumption) | (with_reducible exact Below.refl _ _) | (with_reducible refine bk_drew ?_) | (with_reducible refine bk_alloc ?_ _) | (with_reducible refine bk_setRow ?_ _ _ (by first | exact Nat.le_refl _ | exact Nat.le_succ _ | exact hb1'.size | exact hb2'.size)))))
          (first
            | (go_at_call 24
               refine (ST.out _ (by repeat (first | (with_reducible assumption) | (with_reducible exact Below.refl _ _) | (with_reducible refine bk_drew ?_) | (with_reducible refine bk_alloc ?_ _))) (by refine Below.size (B := wr.heap.size) ?_; repeat (first | (with_reducible assumption) | (with_reducible exact Below.refl _ _) | (with_reducible refine bk_drew ?_) | (with_reducible refine bk_alloc ?_ _)))).mono ?_
               rintro e w1 ⟨rfl, hb1', hb1w⟩
               (first
               | (refine have_ (P := Z10 w1 wr.heap.size) ?_ ?_
                  · (refine Z10.below ?_ hb1w; repeat (first | (with_reducible exact z10_new _ rfl) | (with_reducible refine Z10.drew ?_)))
                  intro ZP)
               | skip))
            | (go_at_call 23
               refine (WT.out _ (by repeat (first | (with_reducible assumption) | (with_reducible exact Below.refl _ _) | (with_reducible refine bk_drew ?_) | (with_reducible refine bk_alloc ?_ _))) (by refine Below.size (B := wr.heap.size) ?_; repeat (first | (with_reducible assumption) | (with_reducible exact Below.refl _ _) | (with_reducible refine bk_drew ?_) | (with_reducible refine bk_alloc ?_ _)))).mono ?_
               rintro e w2 ⟨V, S', A', c', hV, hVe, hS', rfl, hr2, hin2, hb2', hb2w⟩
               (first
               | (refine have_ (P := Z10 w2 wr.heap.size) ?_ ?_
                  · (refine Z10.below ?_ hb2w; repeat (first | (with_reducible exact ZP) | (with_reducible refine Z10.drew ?_)))
                  intro ZK)
               | (refine have_ (P := Z10 w2 w1.heap.size) ?_ ?_
                  · (refine Z10.below ?_ hb2w; repeat (first | (with_reducible exact z10_new _ rfl) | (with_reducible refine Z10.drew ?_)))
                  intro ZK)
               | skip)))
        all_goals (go_wp2_with fail; go_split_ands; go_meet; exact ⟨_, V, S', A', c', rfl, rfl, hV, hVe, hS', Lib.hid (by first | exact Blk.row ZK _ | exact Blk.row (z10_new _ rfl) _), (by first | exact Nat.le_refl _ | exact hb1'.size | exact hb2'.size), (by assumption)⟩)
      case rest =>
        obtain ⟨g, V, S', A', c', rfl, rfl, hV, hVe, hS', hBV, hg, hbc⟩ := hcut
        have hVi : (Tryd.prog.info? 42).map (·.size) = some V.size := by rw [sizeH, hV.size]
        have hl2 : l.length = m2 := by have := HR2.out.1; simpa using this
        have hwc : Below w.heap.size w wc := hnx.trans (hbc.mono hszr)
        have hrcc := HRC.out.below hwc HRC.out.1
        have hS'ok : S'.ok := by rw [hS'.out]; exact absorbed_ok iv_ok _ _
        have hwr2 := write_two S' A' A2 0 c' 64 m2 c2 [] l wc wc (Below.refl _ _) (Nat.le_refl _) hS'ok ⟨by simp, fun h => absurd h (by omega)⟩ ((HR2.out.below hwc).more hwc.size) (by omega) (by decide) (by omega) (by omega) hrcc
        rw [show hashV S' (.slice A' 0 c') 64 = V from hVe.out.symm] at hwr2
        have VI := Lib.hid hVi; have W2 := Lib.hid hwr2; have HL2 := Lib.hid hl2; have HWC := Lib.hid hwc; have HRCC := Lib.hid hrcc; have SOK := Lib.hid hS'ok
        have hB0c := Lib.hid (hB0.out.below hbc hB0.out.lt)
        clear hVi hwr2 hl2 hwc hrcc hS'ok
        go_wp2_with (first | (refine wpList_load_row rfl 42 (.tmp 10) rfl g rfl 42 V (0, 0) _ hBV.out Tryd.underlying42 rfl VI.out ?_))
        refine (W2.out).mono ?_
        rintro e w2 ⟨V2, S2, A2', c2', hV2, hV2e, hS2, rfl, hr2, hin2, hb2', hb2w⟩
        have hgl := hBV.out.lt
        have hbg2 := hBV.out.below hb2w hgl
        have hr02 := hB0c.out.below hb2w hB0c.out.lt
        have hVi2 : (Tryd.prog.info? 42).map (·.size) = some V2.size := by rw [sizeH, hV2.size]
        have hVo2 : V.size = V2.size := by rw [hV.size, hV2.size]
        have h1V2 := hV2.one
        have hgw : w.heap.size ≤ g := Nat.le_trans hszr hg
        have hg0 : w.heap.size ≠ g := by have := hB0.out.lt; omega
        have hbW : Below w.heap.size w (w2.setRow g V2) := below_setRow (HWC.out.trans (hb2'.mono HWC.out.size)) hgw _
        have hrW := hr02.rowFar hg0 V2
        have hbgW := hbg2.row V2
        have hS2ok : S2.ok := by rw [hS2.out]; exact absorbed_ok SOK.out _ _
        have hfin := finish_ok S2 A2' ((0 + m2) % 64) c2' (64 + m2) (([] ++ l).drop (64 * ((0 + m2) / 64))) (w2.setRow g V2) hS2ok ((hr2.out.row hin2.out (Or.inl hgl) V2).more (by simp)) (by omega) (by unfold checkE; rw [if_neg]; omega) (by omega) (HRC.out.below hbW HRC.out.1)
        rw [← hV2e.out] at hfin
        have F1 := Lib.hid hbg2; have F3 := Lib.hid hVi2; have F4 := Lib.hid hVo2; have F5 := Lib.hid h1V2; have F6 := Lib.hid hbW; have F7 := Lib.hid hrW; have F8 := Lib.hid hbgW; have F9 := Lib.hid hfin
        clear hbg2 hr02 hVi2 hVo2 h1V2 hbW hrW hbgW hfin hb2' hb2w hr2
        go_wp2_with (first | (refine wpList_store_row rfl 42 (.tmp 10) (.tmp 39) rfl g V2 rfl rfl 42 V F1.out F3.out F4.out F5.out ?_) | (refine wpList_load_row rfl 42 (.tmp 10) rfl g rfl 42 V2 (0, 0) _ F8.out Tryd.underlying42 rfl F3.out ?_))
        refine F9.out.mono ?_
        rintro e w5 ⟨rfl, hb5⟩
        have hl2 := HL2.out
        have hD : keyedB Xp l = sumBytes (absorbed S2 (([] ++ l).drop (64 * ((0 + m2) / 64)) ++ padBytes (64 + m2)) (((0 + m2) % 64 + (padBytes (64 + m2)).length) / 64)) := by
          unfold keyedB keyedS
          rw [hS2.out, hS'.out, hl2]
          simp only [List.nil_append, Nat.zero_add]
        rw [← hD]
        have h5 := F7.out.below hb5 F7.out.lt
        have hw5 : Below w.heap.size w w5 := F6.out.trans (hb5.mono F6.out.size)
        have hsD : (Tryd.prog.info? 35).map (·.size) = some (bv (keyedB Xp l)).toArray.size := by rw [size32]; simp [keyedB_length]
        have hoD : zeros32.size = (bv (keyedB Xp l)).toArray.size := by rw [zeros32_size]; simp [keyedB_length]
        have h1D : (bv (keyedB Xp l)).toArray.all (·.oneCell') = true := by
          rw [Array.all_eq_true_iff_forall_mem]
          intro v hv
          exact bv_oneCell (keyedB Xp l) v (by simpa using hv)
        obtain ⟨V3, hV3⟩ : ∃ V, V = (bv (keyedB Xp l)).toArray := ⟨_, rfl⟩
        rw [← hV3] at hsD hoD h1D ⊢
        have HV3 := Lib.hid hV3
        have U1 := Lib.hid h5; have U2 := Lib.hid hsD; have U3 := Lib.hid hoD; have U4 := Lib.hid h1D; have U5 := Lib.hid hw5
        clear hV3 h5 hsD hoD h1D hw5 hD hl2 hb5
        go_wp2_with (refine wpList_store_row rfl 35 (.tmp 6) (.tmp 47) rfl w.heap.size V3 rfl rfl 35 zeros32 U1.out U2.out U3.out U4.out ?_)
        exact bodyPost_ret (results_row_tmp rfl _ _ w.heap.size 35 V3 (0, 0) _ rfl (U1.out.row _) Tryd.underlying35 rfl U2.out) rfl ⟨by rw [HV3.out, HXP.out, HX.out]; rfl, below_setRow U5.out (Nat.le_refl _) _⟩
end Go.Proofs.YtpoppfmlphkakaaDoor
