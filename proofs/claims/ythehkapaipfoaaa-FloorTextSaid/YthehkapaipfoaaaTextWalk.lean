/-
  FLPARSE: the reference's Parse; FLOORTEXT: the walk.
-/
import Derived.Test.YthehkapaipfoaaaFlText
namespace Go.Proofs.Ythehkapaipfoaaa
set_option linter.unusedVariables false
set_option linter.unusedSimpArgs false
set_option maxRecDepth 100000
open Go.RowKit

structure RInv (w wr : World) (W H : Nat) (u : Value) (cells : List UInt8) : Prop where
  z : Blk wr w.heap.size 34 (b3 0 0 (.slice none 0 0))
  f : Blk wr (w.heap.size + 1) 34 (b3 W H u)
  own : wr.ownsRow (w.heap.size + 1 + 1) 5 1 u cells.length (bv cells)
  bel : Below w.heap.size w wr
theorem RInv.lt {w wr : World} {W H : Nat} {u : Value} {cells : List UInt8} (h : RInv w wr W H u cells) : w.heap.size + 1 + 1 ≤ wr.heap.size := h.f.lt
theorem rinv_start (w : World) : RInv w ((w.alloc (.cells #[.int .i64 0, .int .i64 0, .slice none 0 0] 34)).alloc (.cells #[.int .i64 0, .int .i64 0, .slice none 0 0] 34)) 0 0 (.slice none 0 0) [] := by
  refine ⟨(Blk.new w 34 (b3 0 0 (.slice none 0 0))).alloc _, ?_, World.ownsRow_nil _ _ _ _, ((Below.refl _ _).alloc (Nat.le_refl _) _).alloc (by simp) _⟩
  have := Blk.new (w.alloc (.cells #[.int .i64 0, .int .i64 0, .slice none 0 0] 34)) 34 (b3 0 0 (.slice none 0 0))
  simpa [b3] using this
theorem RInv.next {w wr w2 : World} {W H : Nat} {u : Value} {cells : List UInt8} (h : RInv w wr W H u cells) (hb : Below wr.heap.size wr w2) : RInv w w2 W H u cells :=
  ⟨h.z.below hb h.z.lt, h.f.below hb h.f.lt, own_below h.own hb (fun y hy => (h.own.lt y hy).2), h.bel.trans (hb.mono h.bel.size)⟩
theorem RInv.row {w wr : World} {W H len : Nat} {u : Value} {cells : List UInt8} (h : RInv w wr W H u cells) :
    RInv w ((wr.setCell ⟨w.heap.size + 1, 0, none⟩ (.int .i64 (len : Int))).setCell ⟨w.heap.size + 1, 1, none⟩ (.int .i64 ((H : Int) + 1))) len (H + 1) u cells :=
  ⟨(h.z.far (by simp) _).far (by simp) _, by have := (h.f.set_ 0 (.int .i64 (len : Int))).set_ 1 (.int .i64 ((H : Int) + 1)); simpa [b3] using this,
    own_far (own_far h.own (by simp) _) (by simp) _, (h.bel.setCell (by simp) _).setCell (by simp) _⟩
theorem RInv.app {w wr w4 : World} {W H : Nat} {u v : Value} {cells cells' : List UInt8} (h : RInv w wr W H u cells) (hb : Below (w.heap.size + 1 + 1) wr w4) (hown : w4.ownsRow (w.heap.size + 1 + 1) 5 1 v cells'.length (bv cells')) :
    RInv w (w4.setCell ⟨w.heap.size + 1, 2, none⟩ v) W H v cells' :=
  ⟨(h.z.below hb (by omega)).far (by simp) _, by have := (h.f.below hb (by omega)).set_ 2 v; simpa [b3] using this,
    own_far hown (by simp) _, (h.bel.trans (hb.mono (by omega))).setCell (by simp) _⟩

set_option maxHeartbeats 3200000 in
theorem refParse_any (s : ByteArray) (w : World) (hs : s.size ≤ 140737488351232) :
    Calls Try.prog 54 #[.string s] w (ParsePost w (parseF s.data.toList)) := by
  obtain ⟨i0, hi, hz0, hz1, hz2⟩ := info_parts u8_info'
  have hat : ∀ k (h : k < s.size), s.data.toList[k]? = some s[k] := fun k h => by
    rw [List.getElem?_eq_getElem (by simpa using h)]; rfl
  have IX : Hid (∀ (k : Nat) (c : UInt8), s.data.toList[k]? = some c → ∀ W, (Instr.index 9 (.string s) (.int .i64 (k : Int))).run Try.prog W = .ok (.int .u8 (c.toNat : Int)) W) := Lib.hid (fun k c h W => index_str' s c (k : Int) k rfl h W)
  have VC := Lib.hid (fun (c : UInt8) W => refValue_any c W)
  have I0 := Lib.hid (rinv_start w)
  have AT := Lib.hid hat
  have HLL : Hid (s.data.toList.length = s.size) := Lib.hid rfl
  clear hat
  go_enter Try.func54, Try.ntmps54
  go_wp2
  go_loopw [5, 6] (fun fr i wr => ∃ (k F : Nat) (st : PSt) (cv : Value), k ≤ s.size ∧ i = .int .i64 (k : Int) ∧ fr = .int .i64 (F : Int) ∧ F + st.len = k ∧ Hid (readC (s.data.toList.drop k) st = readC s.data.toList p0) ∧ st.H ≤ k ∧ st.W ≤ k ∧ st.cells.length ≤ k ∧ Hid (RInv w wr st.W st.H cv st.cells))
    (fun _ i _ => s.size - (intOf i).toNat)
  case atStart => exact ⟨0, 0, p0, _, Nat.zero_le _, rfl, rfl, rfl, Lib.hid rfl, Nat.zero_le _, Nat.zero_le _, Nat.zero_le _, I0⟩
  case round =>
    obtain ⟨k, F, st, cv, hk, rfl, rfl, hF, hrd, hH, hW, hcl, hinv⟩ := hrel
    clear I0
    obtain ⟨sW, sH, sl, sc⟩ := st
    simp only at hF hH hW hcl hinv
    have HI := hinv
    clear hinv
    have k0 : (0 : Int) ≤ (k : Int) := by omega
    by_cases hlt : k < s.size
    · have hc := AT.out k hlt
      generalize s[k] = c at hc
      have hdr := readC_drop ⟨sW, sH, sl, sc⟩ hc
      rw [hrd.out] at hdr
      have ix := IX.out k c hc
      have k1 : (k : Int) < (s.size : Int) := by omega
      have hsub : (k : Int) - (F : Int) = (sl : Int) := by omega
      have F0 : (0 : Int) ≤ (F : Int) := by omega
      by_cases h10 : c.toNat = 10
      · rw [h10] at ix
        have ix' : ∀ W, (Instr.index 9 (.string s) (.int .i64 (k : Int))).run Try.prog W = .ok (.int .u8 10) W := ix
        clear ix
        by_cases hbad : 0 < sH ∧ sl ≠ sW
        · have hst : stepC ⟨sW, sH, sl, sc⟩ c = none := by unfold stepC; rw [if_pos h10, if_pos hbad]
          rw [hst] at hdr
          obtain ⟨g1, g2⟩ := hbad
          have g3 : ((sl : Int) != (sW : Int)) = true := by rw [bne_iff_ne]; omega
          have g4 : (sl != sW) = true := by rw [bne_iff_ne]; exact g2
          have d0 := HI.out.f.cellv 0 (v := .int .i64 (sW : Int)) rfl
          have d1 := HI.out.f.cellv 1 (v := .int .i64 (sH : Int)) rfl
          have HD := Lib.hid hdr
          have f0 := HI.out.z.frozen 0
          have f1 := HI.out.z.frozen 1
          have f2 := HI.out.z.frozen 2
          have c0 := HI.out.z.cellv 0 (v := .int .i64 0) rfl
          have c1 := HI.out.z.cellv 1 (v := .int .i64 0) rfl
          have c2 := HI.out.z.cellv 2 (v := .slice none 0 0) rfl
          clear hdr hst hrd hc h10 g2
          go_wp2
          exact bodyPost_ret (results_row_tmp rfl _ _ w.heap.size 34 (b3 0 0 (.slice none 0 0)) (0, 0) _ rfl (f3_three HI.out.z) Try.underlying34 rfl (f3_info _ _ _)) rfl (post_err (parse_none HD.out) rfl (below_three HI.out.bel (Nat.le_refl _) _ _ _))
        · have hst : stepC ⟨sW, sH, sl, sc⟩ c = some ⟨sl, sH + 1, 0, sc⟩ := by unfold stepC; rw [if_pos h10, if_neg hbad]
          rw [hst] at hdr
          have d0 := HI.out.f.cellv 0 (v := .int .i64 (sW : Int)) rfl
          have d1 := HI.out.f.cellv 1 (v := .int .i64 (sH : Int)) rfl
          have e0 := HI.out.f.frozen 0
          have e1 := HI.out.f.frozen 1
          have HD := Lib.hid hdr
          have HN := Lib.hid (HI.out.row (len := sl))
          clear hdr hst hrd hc h10
          by_cases hz : sH = 0
          · have g1 : decide ((0 : Int) < (sH : Int)) = false := decide_eq_false (by omega)
            have g2 : decide (0 < sH) = false := decide_eq_false (by omega)
            clear hbad
            have HZ := Lib.hid hz
            clear hz
            go_wp2
            go_roundw
            case rel => exact ⟨k + 1, k + 1, ⟨sl, sH + 1, 0, sc⟩, cv, by omega, by go_num, by go_num, rfl, Lib.hid HD.out.symm, by show sH + 1 ≤ k + 1; omega, by show sl ≤ k + 1; omega, by show sc.length ≤ k + 1; omega, HN⟩
            case measure => simp [intOf]; omega
          · have g1 : 0 < sH := by omega
            have g2 : ((sl : Int) != (sW : Int)) = false := by rw [bne_eq_false_iff_eq]; omega
            have g3 : (sl != sW) = false := by rw [bne_eq_false_iff_eq]; omega
            clear hbad hz
            go_wp2
            go_roundw
            case rel => exact ⟨k + 1, k + 1, ⟨sl, sH + 1, 0, sc⟩, cv, by omega, by go_num, by go_num, rfl, Lib.hid HD.out.symm, by show sH + 1 ≤ k + 1; omega, by show sl ≤ k + 1; omega, by show sc.length ≤ k + 1; omega, HN⟩
            case measure => simp [intOf]; omega
      · have e10 : ((c.toNat : Int) == 10) = false := by simp; omega
        have e11 : ((c.toNat : Int) != 10) = true := by rw [bne_iff_ne]; omega
        have V1 := Lib.hid (fun W => VC.out c W)
        cases hcell : cellC c
        · have hst : stepC ⟨sW, sH, sl, sc⟩ c = none := by unfold stepC; rw [if_neg h10, hcell]
          rw [hst] at hdr
          rw [hcell] at V1
          have HD := Lib.hid hdr
          clear hdr hst hrd hc h10 hcell
          go_wp2_with fail
          refine (V1.out _).mono ?_
          rintro e w3 ⟨rfl, hb⟩
          replace HI := Lib.hid (HI.out.next hb)
          clear hb
          have f0 := HI.out.z.frozen 0
          have f1 := HI.out.z.frozen 1
          have f2 := HI.out.z.frozen 2
          have c0 := HI.out.z.cellv 0 (v := .int .i64 0) rfl
          have c1 := HI.out.z.cellv 1 (v := .int .i64 0) rfl
          have c2 := HI.out.z.cellv 2 (v := .slice none 0 0) rfl
          go_wp2
          exact bodyPost_ret (results_row_tmp rfl _ _ w.heap.size 34 (b3 0 0 (.slice none 0 0)) (0, 0) _ rfl (f3_three HI.out.z) Try.underlying34 rfl (f3_info _ _ _)) rfl (post_err (parse_none HD.out) rfl (below_three HI.out.bel (Nat.le_refl _) _ _ _))
        · rename_i x
          have hst : stepC ⟨sW, sH, sl, sc⟩ c = some ⟨sW, sH, sl + 1, sc ++ [x]⟩ := by unfold stepC; rw [if_neg h10, hcell]
          rw [hst] at hdr
          rw [hcell] at V1
          have HD := Lib.hid hdr
          clear hdr hst hrd hc h10 hcell
          go_wp2_with fail
          refine (V1.out _).mono ?_
          rintro e w3 ⟨rfl, hb⟩
          replace HI := Lib.hid (HI.out.next hb)
          clear hb ix
          have d2 := HI.out.f.cellv 2 (v := cv) rfl
          have hlt2 := HI.out.lt
          go_wp2_with (at_builtin; refine wpList_append_any _ rfl _ _ 32 rfl (w.heap.size + 1 + 1) 5 i0 (.int .u8 0) 1 1 Try.underlying32 hi hz0 hz1 hz2 rfl (by decide) _ _ _ rfl (HI.out.own.alloc _) (w3.heap.size + 1) _ 1 1 _ rfl (reads_new1 (u := u8v x) _ _ rfl) (bv_oneCell [_]) (by unfold maxLen; omega) (by omega) (by simp; omega) ?_; intro v4 w4 hown4 hg4 _; obtain ⟨A4, c4, rfl, _, _, _⟩ := own_form hown4; have hx4 : Below (w.heap.size + 1 + 1) w3 w4 := ((Below.refl _ _).alloc hlt2 _).grown hg4 (by simp; omega) (fun y hy => (HI.out.own.lt y hy).1); have p2 := (HI.out.f.below hx4 (by omega)).cellv 2 (v := cv) rfl; have q2 := (HI.out.f.below hx4 (by omega)).frozen 2; have HX4 := Lib.hid hx4; have HO4 := Lib.hid hown4; clear d2 hx4 hown4 hg4)
          have HO5 : Hid (w4.ownsRow (w.heap.size + 1 + 1) 5 1 (.slice A4 (sc.length + 1) c4) (sc.length + 1) (bv sc ++ [u8v x])) := by assumption
          have HN := Lib.hid (HI.out.app (cells' := sc ++ [x]) HX4.out (by rw [bv_append, List.length_append]; exact HO5.out))
          go_roundw
          case rel => exact ⟨k + 1, F, ⟨sW, sH, sl + 1, sc ++ [x]⟩, _, by omega, by go_num, rfl, by show F + (sl + 1) = k + 1; omega, Lib.hid HD.out.symm, by show sH ≤ k + 1; omega, by show sW ≤ k + 1; omega, by show (sc ++ [x]).length ≤ k + 1; simp; omega, HN⟩
          case measure => simp [intOf]; omega
    · have hks : k = s.size := by omega
      have hfin : readC s.data.toList p0 = some ⟨sW, sH, sl, sc⟩ := by
        rw [← hrd.out, List.drop_eq_nil_of_le (by rw [HLL.out]; omega)]; rfl
      have hps := parse_some hfin
      simp only at hps
      clear hfin hrd
      by_cases hl0 : 0 < sl
      · rw [if_pos hl0] at hps
        have HPS := Lib.hid hps
        have g1 : ((F : Int) != (s.size : Int)) = true := by rw [bne_iff_ne]; omega
        have g2 : (F != s.size) = true := by rw [bne_iff_ne]; omega
        have f0 := HI.out.z.frozen 0
        have f1 := HI.out.z.frozen 1
        have f2 := HI.out.z.frozen 2
        have c0 := HI.out.z.cellv 0 (v := .int .i64 0) rfl
        have c1 := HI.out.z.cellv 1 (v := .int .i64 0) rfl
        have c2 := HI.out.z.cellv 2 (v := .slice none 0 0) rfl
        clear hps hF hl0
        subst hks
        go_wp2
        exact bodyPost_ret (results_row_tmp rfl _ _ w.heap.size 34 (b3 0 0 (.slice none 0 0)) (0, 0) _ rfl (f3_three HI.out.z) Try.underlying34 rfl (f3_info _ _ _)) rfl (post_err HPS.out rfl (below_three HI.out.bel (Nat.le_refl _) _ _ _))
      · rw [if_neg hl0] at hps
        have g1 : ((F : Int) != (s.size : Int)) = false := by rw [bne_eq_false_iff_eq]; omega
        have g2 : (F != s.size) = false := by rw [bne_eq_false_iff_eq]; omega
        have d0 := HI.out.f.cellv 0 (v := .int .i64 (sW : Int)) rfl
        have d1 := HI.out.f.cellv 1 (v := .int .i64 (sH : Int)) rfl
        have d2 := HI.out.f.cellv 2 (v := cv) rfl
        obtain ⟨A, cc, rfl, hnc, hcm, _⟩ := own_form HI.out.own
        have CH := Lib.hid (validFloor_any (sW : Int) (sH : Int) A sc.length cc sc wr (Reads.of_own HI.out.own) (by omega))
        clear hF hl0
        subst hks
        cases hf : floorB sW sH sc
        · rw [hf] at hps CH
          simp only [Bool.false_eq_true, if_false] at hps
          have HPS := Lib.hid hps
          clear hps hf
          go_wp2_with fail
          refine CH.out.mono ?_
          rintro e w3 ⟨rfl, hb3⟩
          replace HI := Lib.hid (HI.out.next hb3)
          clear hb3 d0 d1 d2
          have f0 := HI.out.z.frozen 0
          have f1 := HI.out.z.frozen 1
          have f2 := HI.out.z.frozen 2
          have c0 := HI.out.z.cellv 0 (v := .int .i64 0) rfl
          have c1 := HI.out.z.cellv 1 (v := .int .i64 0) rfl
          have c2 := HI.out.z.cellv 2 (v := .slice none 0 0) rfl
          go_wp2
          exact bodyPost_ret (results_row_tmp rfl _ _ w.heap.size 34 (b3 0 0 (.slice none 0 0)) (0, 0) _ rfl (f3_three HI.out.z) Try.underlying34 rfl (f3_info _ _ _)) rfl (post_err HPS.out rfl (below_three HI.out.bel (Nat.le_refl _) _ _ _))
        · rw [hf] at hps CH
          simp only [if_true] at hps
          have HPS := Lib.hid hps
          clear hps hf
          go_wp2_with fail
          refine CH.out.mono ?_
          rintro e w3 ⟨rfl, hb3⟩
          replace HI := Lib.hid (HI.out.next hb3)
          clear hb3 d0 d1 d2
          have f0 := HI.out.z.frozen 0
          have f1 := HI.out.z.frozen 1
          have f2 := HI.out.z.frozen 2
          have c0 := HI.out.z.cellv 0 (v := .int .i64 0) rfl
          have c1 := HI.out.z.cellv 1 (v := .int .i64 0) rfl
          have c2 := HI.out.z.cellv 2 (v := .slice none 0 0) rfl
          have d0 := HI.out.f.cellv 0 (v := .int .i64 (sW : Int)) rfl
          have d1 := HI.out.f.cellv 1 (v := .int .i64 (sH : Int)) rfl
          have d2 := HI.out.f.cellv 2 (v := .slice A sc.length cc) rfl
          go_wp2
          refine bodyPost_ret (results_row_tmp rfl _ _ w.heap.size 34 (b3 sW sH (.slice A sc.length cc)) (0, 0) _ rfl (f3_three HI.out.z) Try.underlying34 rfl (f3_info _ _ _)) rfl ?_
          rw [HPS.out]
          exact ⟨_, rfl, own_more (own_far (own_far (own_far HI.out.own (by simp; omega) _) (by simp; omega) _) (by simp; omega) _) (by omega), below_three HI.out.bel (Nat.le_refl _) _ _ _⟩

theorem reads_am {w : World} {size n : Nat} {A : Option Addr} {xs : List Value} (h : Reads w w.heap.size size A n xs) (o : Obj) : Reads (w.alloc o) (w.alloc o).heap.size size A n xs := (h.alloc (Nat.le_refl _) o).more (by simp)
set_option maxHeartbeats 3200000 in
theorem floorText.floorText_walk (a b : Int) (A : Option Addr) (n c : Nat) (l : List UInt8) (s : ByteArray) (w : World) (hr : Reads w w.heap.size 1 A n (bv l)) (hnc : n ≤ c) (hc : c ≤ 140737488351232) (hs : s.size ≤ maxLen) (hs2 : s.data.toList.length ≤ reachBytes) :
    Calls Try.prog 6 #[.agg #[.int .i64 a, .int .i64 b, .slice A n c], .string s] w fun e w' => e = .returned (.bool true) ∧ Below w.heap.size w w' := by
  have hs3 : s.size ≤ 140737488351232 := by
    have : s.data.toList.length = s.size := Array.length_toList
    unfold reachBytes at hs2
    omega
  have hn : n ≤ 140737488351232 := by omega
  have FB := Lib.hid (fbox w a b (.slice A n c))
  have D1 := Lib.hid (fun W (hb : Below w.heap.size w W) => draw_any a b A n c l W ((hr.below hb).more hb.size) hn)
  have D2 := Lib.hid (fun W (hb : Below w.heap.size w W) => refDraw_any a b A n c l W ((hr.below hb).more hb.size) hn)
  have P1 := Lib.hid (fun W => parse_any s W hs3)
  have P2 := Lib.hid (fun W => refParse_any s W hs3)
  generalize drawS a b l = d at D1 D2
  obtain ⟨dl, de⟩ := d
  generalize parseF s.data.toList = p at P1 P2
  obtain ⟨pW, pH, pc, pe⟩ := p
  clear hr hs hs2
  go_enter Try.func6, Try.ntmps6
  go_wp2_with fail
  refine (D1.out _ FB.out.bel).mono ?_
  rintro e x ⟨rfl, hb⟩
  replace FB := Lib.hid (FB.out.next hb)
  have c0 := FB.out.kf.cellv 0 (v := .int .i64 a) rfl
  have c1 := FB.out.kf.cellv 1 (v := .int .i64 b) rfl
  have c2 := FB.out.kf.cellv 2 (v := .slice A n c) rfl
  clear hb
  go_wp2_with fail
  refine (D2.out _ FB.out.bel).mono ?_
  rintro e x ⟨rfl, hb⟩
  have B := Lib.hid (FB.out.next hb).bel
  clear hb FB c0 c1 c2
  go_wp2_with fail
  refine (P1.out _).mono ?_
  rintro e x ⟨v, rfl, ho, hb⟩
  obtain ⟨A1, c1, rfl, _, _, _⟩ := own_form ho
  replace B := Lib.hid (B.out.trans (hb.mono B.out.size))
  have KX : Hid (Blk (x.alloc (.cells #[.int .i64 (pW : Int), .int .i64 (pH : Int), .slice A1 pc.length c1] 34)) x.heap.size 34 (b3 pW pH (.slice A1 pc.length c1))) := Lib.hid (Blk.new x 34 (b3 pW pH (.slice A1 pc.length c1)))
  have RX := Lib.hid (reads_am (Reads.of_own ho) (.cells #[.int .i64 (pW : Int), .int .i64 (pH : Int), .slice A1 pc.length c1] 34))
  have BX := Lib.hid (B.out.alloc B.out.size (.cells #[.int .i64 (pW : Int), .int .i64 (pH : Int), .slice A1 pc.length c1] 34))
  clear hb ho B
  simp only
  go_upto_region 6 with fail
  generalize World.alloc _ _ = X at KX RX BX ⊢
  generalize x.heap.size = g1 at KX ⊢
  go_wp2_with fail
  refine (P2.out _).mono ?_
  rintro e y ⟨v, rfl, ho, hb⟩
  obtain ⟨A2, c2, rfl, _, _, _⟩ := own_form ho
  replace RX := Lib.hid ((RX.out.below hb).more hb.size)
  replace KX := Lib.hid (KX.out.below hb KX.out.lt)
  replace BX := Lib.hid (BX.out.trans (hb.mono BX.out.size))
  have KY : Hid (Blk (y.alloc (.cells #[.int .i64 (pW : Int), .int .i64 (pH : Int), .slice A2 pc.length c2] 34)) y.heap.size 34 (b3 pW pH (.slice A2 pc.length c2))) := Lib.hid (Blk.new y 34 (b3 pW pH (.slice A2 pc.length c2)))
  have RY := Lib.hid (reads_am (Reads.of_own ho) (.cells #[.int .i64 (pW : Int), .int .i64 (pH : Int), .slice A2 pc.length c2] 34))
  replace RX := Lib.hid (reads_am RX.out (.cells #[.int .i64 (pW : Int), .int .i64 (pH : Int), .slice A2 pc.length c2] 34))
  replace KX := Lib.hid (KX.out.alloc (.cells #[.int .i64 (pW : Int), .int .i64 (pH : Int), .slice A2 pc.length c2] 34))
  replace BX := Lib.hid (BX.out.alloc BX.out.size (.cells #[.int .i64 (pW : Int), .int .i64 (pH : Int), .slice A2 pc.length c2] 34))
  clear hb ho
  go_upto_region 7 with fail
  generalize World.alloc _ _ = Y at KX RX BX KY RY ⊢
  generalize y.heap.size = g2 at KY ⊢
  have c0 := KX.out.cellv 0 (v := .int .i64 (pW : Int)) rfl
  have c1' := KX.out.cellv 1 (v := .int .i64 (pH : Int)) rfl
  have c2' := KX.out.cellv 2 (v := .slice A1 pc.length c1) rfl
  have d0 := KY.out.cellv 0 (v := .int .i64 (pW : Int)) rfl
  have d1 := KY.out.cellv 1 (v := .int .i64 (pH : Int)) rfl
  have d2 := KY.out.cellv 2 (v := .slice A2 pc.length c2) rfl
  go_wp2_with fail
  refine (same_yes _ _ A1 A2 pc.length c1 c2 pc _ RX.out RY.out).mono ?_
  rintro e z ⟨rfl, hb⟩
  replace BX := Lib.hid (BX.out.trans (hb.mono BX.out.size))
  clear hb c0 c1' c2' d0 d1 d2
  go_wp2
  go_ret
  exact ⟨rfl, BX.out⟩
end Go.Proofs.Ythehkapaipfoaaa
