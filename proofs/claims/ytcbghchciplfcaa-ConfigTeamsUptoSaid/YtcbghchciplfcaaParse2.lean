/-
  PARSE2: the walk of floor's Parse.
-/
import Derived.Test.YtcbghchciplfcaaParse
namespace Go.Proofs.Ytcbghchciplfcaa
set_option linter.unusedVariables false
set_option linter.unusedSimpArgs false
set_option maxRecDepth 100000
open Go.RowKit

def ParsePost (w : World) (R : Nat × Nat × List UInt8 × Int) (e : Ending) (w' : World) : Prop :=
  ∃ v', e = .returned (.tuple #[.agg #[.int .i64 (R.1 : Int), .int .i64 (R.2.1 : Int), v'], .int .i64 R.2.2.2]) ∧ w'.ownsRow w.heap.size 5 1 v' R.2.2.1.length (bv R.2.2.1) ∧ Below w.heap.size w w'
theorem post_err {w w' : World} {R : Nat × Nat × List UInt8 × Int} {err : Int} {e : Ending} (hR : R = (0, 0, [], err)) (he : e = .returned (.tuple #[.agg (b3 0 0 (.slice none 0 0)), .int .i64 err])) (hb : Below w.heap.size w w') : ParsePost w R e w' := by
  subst hR he
  exact ⟨_, rfl, World.ownsRow_nil _ _ _ _, hb⟩
theorem parse_none {l : List UInt8} (h : readC l p0 = none) : parseF l = (0, 0, [], 11) := by unfold parseF; rw [h]
theorem parse_some {l : List UInt8} {st : PSt} (h : readC l p0 = some st) : parseF l = if 0 < st.len then (0, 0, [], 11) else if floorB st.W st.H st.cells then (st.W, st.H, st.cells, 0) else (0, 0, [], 50) := by unfold parseF; rw [h]
theorem cellC_high {c : UInt8} (h : 128 ≤ c.toNat) : cellC c = none := by
  unfold cellC
  rw [if_neg (by omega), if_neg (by omega), if_neg (by omega)]
theorem cellC_none {c : UInt8} (h : cellC c = none) : (c.toNat : Int) ≠ 35 ∧ (c.toNat : Int) ≠ 46 ∧ ¬ (48 ≤ (c.toNat : Int) ∧ (c.toNat : Int) < 51) := by
  unfold cellC at h
  by_cases h1 : c.toNat = 35
  · rw [if_pos h1] at h; cases h
  · rw [if_neg h1] at h
    by_cases h2 : c.toNat = 46
    · rw [if_pos h2] at h; cases h
    · rw [if_neg h2] at h
      by_cases h3 : 48 ≤ c.toNat ∧ c.toNat < 51
      · rw [if_pos h3] at h; cases h
      · omega

theorem own_far {w : World} {base : Nat} {e : TypeId} {size : Nat} {v : Value} {n : Nat} {xs : List Value} (h : w.ownsRow base e size v n xs) {p : Addr} (hp : p.block < base) (u : Value) : (w.setCell p u).ownsRow base e size v n xs := by
  obtain ⟨h1, h2⟩ := h
  refine ⟨h1, ?_⟩
  rcases h2 with h2 | ⟨g, cap, cur, a, b, c, d⟩
  · exact .inl h2
  · exact .inr ⟨g, cap, cur, a, b, (Below.heap_setCell w p u g (by omega)).trans c, d⟩
theorem PInv.row {w wr : World} {W H len : Nat} {u : Value} {cells : List UInt8} {s : ByteArray} {k : Nat} (h : PInv w wr W H u cells s k) :
    PInv w ((wr.setCell ⟨w.heap.size + 1, 0, none⟩ (.int .i64 (len : Int))).setCell ⟨w.heap.size + 1, 1, none⟩ (.int .i64 ((H : Int) + 1))) len (H + 1) u cells s k :=
  ⟨(h.z.far (by simp) _).far (by simp) _, by have := (h.f.set_ 0 (.int .i64 (len : Int))).set_ 1 (.int .i64 ((H : Int) + 1)); simpa [b3] using this,
    (Below.heap_setCell _ _ _ _ (by simp)).trans ((Below.heap_setCell _ _ _ _ (by simp)).trans h.it), own_far (own_far h.own (by simp) _) (by simp) _, (h.bel.setCell (by simp) _).setCell (by simp) _⟩
theorem PInv.app {w wr w4 : World} {W H : Nat} {u v : Value} {cells cells' : List UInt8} {s : ByteArray} {k : Nat} (h : PInv w wr W H u cells s k) (hb : Below (w.heap.size + 1 + 1 + 1) wr w4) (hown : w4.ownsRow (w.heap.size + 1 + 1 + 1) 5 1 v cells'.length (bv cells')) :
    PInv w (w4.setCell ⟨w.heap.size + 1, 2, none⟩ v) W H v cells' s k :=
  ⟨(h.z.below hb (by omega)).far (by simp) _, by have := (h.f.below hb (by omega)).set_ 2 v; simpa [b3] using this,
    (Below.heap_setCell _ _ _ _ (by simp)).trans ((hb.block _ (by omega)).trans h.it), own_far hown (by simp) _, (h.bel.trans (hb.mono (by omega))).setCell (by simp) _⟩

set_option maxHeartbeats 3200000 in
theorem parse_any (s : ByteArray) (w : World) (hs : s.size ≤ 140737488351232) :
    Calls Try.prog 59 #[.string s] w (ParsePost w (parseF s.data.toList)) := by
  obtain ⟨i0, hi, hz0, hz1, hz2⟩ := info_parts u8_info'
  obtain ⟨l, hl⟩ : ∃ l, l = s.data.toList := ⟨_, rfl⟩
  have hll : l.length = s.size := by rw [hl]; rfl
  have hat : ∀ k (h : k < s.size), l[k]? = some s[k] := fun k h => by
    rw [hl, List.getElem?_eq_getElem (by simpa using h)]; rfl
  have CY := Lib.hid (fun (c x : UInt8) (h : cellC c = some x) W => cellOf_yes c x W h)
  have I0 := Lib.hid (pinv_start w s)
  have AT := Lib.hid hat; have HLL := Lib.hid hll
  rw [← hl]
  clear hat hl hll
  go_enter Try.func59, Try.ntmps59
  go_wp2
  go_loopw [5] (fun u wr => ∃ (k : Nat) (st : PSt) (cv : Value), k ≤ s.size ∧ u = .int .i64 (st.len : Int) ∧ Hid (readC (l.drop k) st = readC l p0) ∧ st.H ≤ k ∧ st.len ≤ k ∧ st.W ≤ k ∧ st.cells.length ≤ k ∧ Hid (PInv w wr st.W st.H cv st.cells s k))
    (fun _ wr => s.size - wr.iterPos (w.heap.size + 1 + 1))
  case atStart => exact ⟨0, p0, _, Nat.zero_le _, rfl, Lib.hid rfl, Nat.zero_le _, Nat.zero_le _, Nat.zero_le _, Nat.zero_le _, I0⟩
  case round =>
    obtain ⟨k, st, cv, hk, rfl, hrd, hH, hlen, hW, hcl, hinv⟩ := hrel
    clear I0
    have hpos := iterAt_pos hinv.out
    obtain ⟨sW, sH, sl, sc⟩ := st
    simp only at hH hlen hW hcl hinv
    have POS := Lib.hid hpos
    clear hpos
    by_cases hlt : k < s.size
    · have hc := AT.out k hlt
      have hdr := readC_drop ⟨sW, sH, sl, sc⟩ hc
      rw [hrd.out] at hdr
      generalize hcc : s[k] = c at hc hdr
      by_cases hhi : 128 ≤ c.toNat
      · have hd := decode_high s k hlt (by rw [hcc]; exact hhi)
        have hst : stepC ⟨sW, sH, sl, sc⟩ c = none := by unfold stepC; rw [if_neg (by omega), cellC_high hhi]
        rw [hst] at hdr
        have hnx := fun ty => Lib.run_next_any_at (P := Try.prog) wr (w.heap.size + 1 + 1) s k ty hinv.out.it hlt
        have hi2 := hinv.out.move (k + (Utf8.decode s k).2)
        generalize wr.iterAt (w.heap.size + 1 + 1) s (k + (Utf8.decode s k).2) = w2 at hnx hi2
        generalize (Utf8.decode s k).1 = r at hnx hd
        have hr10 : ((r : Int) == 10) = false := by simp; omega
        have CN := Lib.hid (fun W => cellOf_no (r : Int) W (by omega) (by omega) (by omega))
        have HI2 := Lib.hid hi2; have HD := Lib.hid hdr
        have f0 := hi2.z.frozen 0
        have f1 := hi2.z.frozen 1
        have f2 := hi2.z.frozen 2
        have c0 := hi2.z.cellv 0 (v := .int .i64 0) rfl
        have c1 := hi2.z.cellv 1 (v := .int .i64 0) rfl
        have c2 := hi2.z.cellv 2 (v := .slice none 0 0) rfl
        clear hi2 hdr hst hd hinv hrd hc hcc hhi
        go_wp2_with fail
        refine (CN.out _).mono ?_
        rintro e w3 ⟨rfl, rfl⟩
        clear hnx
        go_wp2
        exact bodyPost_ret (results_row_tmp rfl _ _ w.heap.size 30 (b3 0 0 (.slice none 0 0)) (0, 0) _ rfl (f3_three HI2.out.z) Try.underlying30 rfl (f3_info _ _ _)) rfl (post_err (parse_none HD.out) rfl (below_three HI2.out.bel (Nat.le_refl _) _ _ _))
      · have hnx := fun ty => Lib.run_next_ascii_at (P := Try.prog) wr (w.heap.size + 1 + 1) s k ty hinv.out.it hlt (by rw [hcc]; omega)
        rw [hcc] at hnx
        have hi2 := hinv.out.move (k + 1)
        generalize wr.iterAt (w.heap.size + 1 + 1) s (k + 1) = w2 at hnx hi2
        have HI2 := Lib.hid hi2
        clear hi2 hinv hcc
        by_cases h10 : c.toNat = 10
        · rw [h10] at hnx
          by_cases hbad : 0 < sH ∧ sl ≠ sW
          · have hst : stepC ⟨sW, sH, sl, sc⟩ c = none := by unfold stepC; rw [if_pos h10, if_pos hbad]
            rw [hst] at hdr
            obtain ⟨g1, g2⟩ := hbad
            have g3 : ((sl : Int) != (sW : Int)) = true := by rw [bne_iff_ne]; omega
            have g4 : (sl != sW) = true := by rw [bne_iff_ne]; exact g2
            have d0 := HI2.out.f.cellv 0 (v := .int .i64 (sW : Int)) rfl
            have d1 := HI2.out.f.cellv 1 (v := .int .i64 (sH : Int)) rfl
            have HD := Lib.hid hdr
            have f0 := HI2.out.z.frozen 0
            have f1 := HI2.out.z.frozen 1
            have f2 := HI2.out.z.frozen 2
            have c0 := HI2.out.z.cellv 0 (v := .int .i64 0) rfl
            have c1 := HI2.out.z.cellv 1 (v := .int .i64 0) rfl
            have c2 := HI2.out.z.cellv 2 (v := .slice none 0 0) rfl
            clear hdr hst hrd hc h10 hhi g2
            go_wp2
            exact bodyPost_ret (results_row_tmp rfl _ _ w.heap.size 30 (b3 0 0 (.slice none 0 0)) (0, 0) _ rfl (f3_three HI2.out.z) Try.underlying30 rfl (f3_info _ _ _)) rfl (post_err (parse_none HD.out) rfl (below_three HI2.out.bel (Nat.le_refl _) _ _ _))
          · have hst : stepC ⟨sW, sH, sl, sc⟩ c = some ⟨sl, sH + 1, 0, sc⟩ := by unfold stepC; rw [if_pos h10, if_neg hbad]
            rw [hst] at hdr
            have d0 := HI2.out.f.cellv 0 (v := .int .i64 (sW : Int)) rfl
            have d1 := HI2.out.f.cellv 1 (v := .int .i64 (sH : Int)) rfl
            have e0 := HI2.out.f.frozen 0
            have e1 := HI2.out.f.frozen 1
            have HD := Lib.hid hdr
            have HN := Lib.hid (HI2.out.row (len := sl))
            have HP := Lib.hid (iterAt_pos (HI2.out.row (len := sl)))
            clear hdr hst hrd hc h10 hhi
            by_cases hz : sH = 0
            · have g1 : decide ((0 : Int) < (sH : Int)) = false := decide_eq_false (by omega)
              have g2 : decide (0 < sH) = false := decide_eq_false (by omega)
              clear hbad
              have HZ := Lib.hid hz
              clear hz
              go_wp2
              go_roundw
              case rel => exact ⟨k + 1, ⟨sl, sH + 1, 0, sc⟩, cv, by omega, rfl, Lib.hid HD.out.symm, by show sH + 1 ≤ k + 1; omega, Nat.zero_le _, by show sl ≤ k + 1; omega, by show sc.length ≤ k + 1; omega, HN⟩
              case measure => rw [POS.out, HP.out]; omega
            · have g1 : 0 < sH := by omega
              have g2 : ((sl : Int) != (sW : Int)) = false := by rw [bne_eq_false_iff_eq]; omega
              have g3 : (sl != sW) = false := by rw [bne_eq_false_iff_eq]; omega
              clear hbad hz
              go_wp2
              go_roundw
              case rel => exact ⟨k + 1, ⟨sl, sH + 1, 0, sc⟩, cv, by omega, rfl, Lib.hid HD.out.symm, by show sH + 1 ≤ k + 1; omega, Nat.zero_le _, by show sl ≤ k + 1; omega, by show sc.length ≤ k + 1; omega, HN⟩
              case measure => rw [POS.out, HP.out]; omega
        · have e10 : ((c.toNat : Int) == 10) = false := by simp; omega
          cases hcell : cellC c
          · have hst : stepC ⟨sW, sH, sl, sc⟩ c = none := by unfold stepC; rw [if_neg h10, hcell]
            rw [hst] at hdr
            obtain ⟨n1, n2, n3⟩ := cellC_none hcell
            have CN := Lib.hid (fun W => cellOf_no (c.toNat : Int) W n1 n2 n3)
            have HD := Lib.hid hdr
            have f0 := HI2.out.z.frozen 0
            have f1 := HI2.out.z.frozen 1
            have f2 := HI2.out.z.frozen 2
            have c0 := HI2.out.z.cellv 0 (v := .int .i64 0) rfl
            have c1 := HI2.out.z.cellv 1 (v := .int .i64 0) rfl
            have c2 := HI2.out.z.cellv 2 (v := .slice none 0 0) rfl
            clear hdr hst hrd hc h10 hhi n1 n2 n3 hcell
            go_wp2_with fail
            refine (CN.out _).mono ?_
            rintro e w3 ⟨rfl, rfl⟩
            clear hnx
            go_wp2
            exact bodyPost_ret (results_row_tmp rfl _ _ w.heap.size 30 (b3 0 0 (.slice none 0 0)) (0, 0) _ rfl (f3_three HI2.out.z) Try.underlying30 rfl (f3_info _ _ _)) rfl (post_err (parse_none HD.out) rfl (below_three HI2.out.bel (Nat.le_refl _) _ _ _))
          · rename_i x
            have hst : stepC ⟨sW, sH, sl, sc⟩ c = some ⟨sW, sH, sl + 1, sc ++ [x]⟩ := by unfold stepC; rw [if_neg h10, hcell]
            rw [hst] at hdr
            have d2 := HI2.out.f.cellv 2 (v := cv) rfl
            have HC := Lib.hid hcell; have HD := Lib.hid hdr
            have hlt2 := HI2.out.lt
            clear hdr hst hrd hc h10 hhi hcell
            go_wp2_with fail
            refine (CY.out c x HC.out _).mono ?_
            rintro e w3 ⟨rfl, rfl⟩
            clear hnx
            go_wp2_with (at_builtin; refine wpList_append_any _ rfl _ _ 28 rfl (w.heap.size + 1 + 1 + 1) 5 i0 (.int .u8 0) 1 1 Try.underlying28 hi hz0 hz1 hz2 rfl (by decide) _ _ _ rfl (HI2.out.own.alloc _) (w2.heap.size + 1) _ 1 1 _ rfl (reads_new1 (u := u8v x) _ _ rfl) (bv_oneCell [_]) (by unfold maxLen; omega) (by omega) (by simp; omega) ?_; intro v4 w4 hown4 hg4 _; obtain ⟨A4, c4, rfl, _, _, _⟩ := own_form hown4; have hx4 : Below (w.heap.size + 1 + 1 + 1) w2 w4 := ((Below.refl _ _).alloc hlt2 _).grown hg4 (by simp; omega) (fun y hy => (HI2.out.own.lt y hy).1); have p2 := (HI2.out.f.below hx4 (by omega)).cellv 2 (v := cv) rfl; have q2 := (HI2.out.f.below hx4 (by omega)).frozen 2; have HX4 := Lib.hid hx4; have HO4 := Lib.hid hown4; clear hx4 hown4 hg4)
            have HO5 : Hid (w4.ownsRow (w.heap.size + 1 + 1 + 1) 5 1 (.slice A4 (sc.length + 1) c4) (sc.length + 1) (bv sc ++ [u8v x])) := by assumption
            have hn := HI2.out.app (cells' := sc ++ [x]) HX4.out (by rw [bv_append, List.length_append]; exact HO5.out)
            have HN := Lib.hid hn
            have HP := Lib.hid (iterAt_pos hn)
            clear hn
            go_roundw
            case rel => exact ⟨k + 1, ⟨sW, sH, sl + 1, sc ++ [x]⟩, _, by omega, by go_num, Lib.hid HD.out.symm, by show sH ≤ k + 1; omega, by show sl + 1 ≤ k + 1; omega, by show sW ≤ k + 1; omega, by show (sc ++ [x]).length ≤ k + 1; simp; omega, HN⟩
            case measure => rw [POS.out, HP.out]; omega
    · have hnx := fun ty => Lib.run_next_end_at (P := Try.prog) wr (w.heap.size + 1 + 1) s k ty hinv.out.it hlt
      have hfin : readC l p0 = some ⟨sW, sH, sl, sc⟩ := by
        rw [← hrd.out, List.drop_eq_nil_of_le (by rw [HLL.out]; omega)]; rfl
      have hps := parse_some hfin
      simp only at hps
      clear hfin hrd
      have f0 := hinv.out.z.frozen 0
      have f1 := hinv.out.z.frozen 1
      have f2 := hinv.out.z.frozen 2
      have c0 := hinv.out.z.cellv 0 (v := .int .i64 0) rfl
      have c1 := hinv.out.z.cellv 1 (v := .int .i64 0) rfl
      have c2 := hinv.out.z.cellv 2 (v := .slice none 0 0) rfl
      by_cases hl0 : 0 < sl
      · rw [if_pos hl0] at hps
        have HPS := Lib.hid hps
        clear hps
        go_wp2
        exact bodyPost_ret (results_row_tmp rfl _ _ w.heap.size 30 (b3 0 0 (.slice none 0 0)) (0, 0) _ rfl (f3_three hinv.out.z) Try.underlying30 rfl (f3_info _ _ _)) rfl (post_err HPS.out rfl (below_three hinv.out.bel (Nat.le_refl _) _ _ _))
      · rw [if_neg hl0] at hps
        obtain rfl : sl = 0 := by omega
        have d0 := hinv.out.f.cellv 0 (v := .int .i64 (sW : Int)) rfl
        have d1 := hinv.out.f.cellv 1 (v := .int .i64 (sH : Int)) rfl
        have d2 := hinv.out.f.cellv 2 (v := cv) rfl
        obtain ⟨A, cc, rfl, hnc, hcm, _⟩ := own_form hinv.out.own
        have CH := Lib.hid (check_any (sW : Int) (sH : Int) A sc.length cc sc wr (Reads.of_own hinv.out.own) (by omega))
        cases hf : floorB sW sH sc
        · rw [hf] at hps CH
          simp only [Bool.false_eq_true, if_false] at hps CH
          have HPS := Lib.hid hps
          clear hps hf f0 f1 f2 c0 c1 c2
          go_wp2_with fail
          refine CH.out.mono ?_
          rintro e w3 ⟨rfl, hb3⟩
          have hz3 := hinv.out.z.below hb3 hinv.out.z.lt
          have HZ := Lib.hid hz3
          have HB := Lib.hid (hinv.out.bel.trans (hb3.mono hinv.out.bel.size))
          have f0 := HZ.out.frozen 0
          have f1 := HZ.out.frozen 1
          have f2 := HZ.out.frozen 2
          have c0 := HZ.out.cellv 0 (v := .int .i64 0) rfl
          have c1 := HZ.out.cellv 1 (v := .int .i64 0) rfl
          have c2 := HZ.out.cellv 2 (v := .slice none 0 0) rfl
          clear hz3 hb3 hnx d0 d1 d2
          go_wp2
          exact bodyPost_ret (results_row_tmp rfl _ _ w.heap.size 30 (b3 0 0 (.slice none 0 0)) (0, 0) _ rfl (f3_three HZ.out) Try.underlying30 rfl (f3_info _ _ _)) rfl (post_err HPS.out rfl (below_three HB.out (Nat.le_refl _) _ _ _))
        · rw [hf] at hps CH
          simp only [if_true] at hps CH
          have HPS := Lib.hid hps
          clear hps hf f0 f1 f2 c0 c1 c2
          go_wp2_with fail
          refine CH.out.mono ?_
          rintro e w3 ⟨rfl, hb3⟩
          have hz3 := hinv.out.z.below hb3 hinv.out.z.lt
          have hf3 := hinv.out.f.below hb3 hinv.out.f.lt
          have HZ := Lib.hid hz3
          have HB := Lib.hid (hinv.out.bel.trans (hb3.mono hinv.out.bel.size))
          have HO := Lib.hid (own_below hinv.out.own hb3 (fun y hy => (hinv.out.own.lt y hy).2))
          have d0 := hf3.cellv 0 (v := .int .i64 (sW : Int)) rfl
          have d1 := hf3.cellv 1 (v := .int .i64 (sH : Int)) rfl
          have d2 := hf3.cellv 2 (v := .slice A sc.length cc) rfl
          have f0 := HZ.out.frozen 0
          have f1 := HZ.out.frozen 1
          have f2 := HZ.out.frozen 2
          have c0 := HZ.out.cellv 0 (v := .int .i64 0) rfl
          have c1 := HZ.out.cellv 1 (v := .int .i64 0) rfl
          have c2 := HZ.out.cellv 2 (v := .slice none 0 0) rfl
          clear hz3 hf3 hb3 hnx
          go_wp2
          refine bodyPost_ret (results_row_tmp rfl _ _ w.heap.size 30 (b3 sW sH (.slice A sc.length cc)) (0, 0) _ rfl (f3_three HZ.out) Try.underlying30 rfl (f3_info _ _ _)) rfl ?_
          rw [HPS.out]
          exact ⟨_, rfl, own_more (own_far (own_far (own_far HO.out (by simp; omega) _) (by simp; omega) _) (by simp; omega) _) (by omega), below_three HB.out (Nat.le_refl _) _ _ _⟩
end Go.Proofs.Ytcbghchciplfcaa
