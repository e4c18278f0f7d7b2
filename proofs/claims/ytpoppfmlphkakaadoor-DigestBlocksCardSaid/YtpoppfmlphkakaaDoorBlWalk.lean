/-
  DIGESTBLOCKS: the walk.
-/
import Derived.Test.YtpoppfmlphkakaaDoorAlive
import Derived.Test.YtpoppfmlphkakaaDoorBlMath
import Derived.BigQuiet
namespace Go.Proofs.YtpoppfmlphkakaaDoor.digestBlocks
set_option linter.unusedVariables false
set_option linter.unusedSimpArgs false
set_option maxRecDepth 100000
open Go.RowKit

set_option maxHeartbeats 1600000 in
theorem blocks_many (A : Option Addr) (n c : Nat) (w : World) (hn : 8192 < n) (hn2 : n ≤ 140737488351232) (hrc : HasRc w) (hfs : HasFs w) :
    Calls Tryd.prog 11 #[.slice A n c] w fun e w' => e = .returned (.bool true) ∧ Below w.heap.size w w' := by
  have HRC := Lib.hid hrc; have HFS := Lib.hid hfs
  have SM := Lib.hid (fun W (hb : Below w.heap.size w W) => sum_many A n c W hn hn2 (hrc.below hb hrc.1) (hfs.below hb hfs.1))
  have hsD : (Tryd.prog.info? 35).map (·.size) = some (bv (List.replicate 32 0)).toArray.size := by rw [size32]; simp
  have hoD : zeros32.size = (bv (List.replicate 32 0)).toArray.size := by rw [zeros32_size]; simp
  have h1D : (bv (List.replicate 32 0)).toArray.all (·.oneCell') = true := by
    rw [Array.all_eq_true_iff_forall_mem]
    intro v hv
    exact bv_oneCell (List.replicate 32 0) v (by simpa using hv)
  generalize (bv (List.replicate 32 0)).toArray = V at hsD hoD h1D SM
  have U2 := Lib.hid hsD; have U3 := Lib.hid hoD; have U4 := Lib.hid h1D
  have hz32 := alloc32
  have k1 : (8192 : Int) < (n : Int) := by omega
  clear hsD hoD h1D hrc hfs
  go_enter Tryd.func11, Tryd.ntmps11
  go_wp2_with fail
  refine (alive_true _ HRC.out HFS.out).mono ?_
  rintro e w1 ⟨rfl, hb1⟩
  have B1 := Lib.hid hb1
  clear hb1
  go_wp2_with fail
  refine (SM.out _ B1.out).mono ?_
  rintro e w2 ⟨rfl, hb2⟩
  have B2 := Lib.hid (B1.out.trans (hb2.mono B1.out.size))
  have BH := Lib.hid (Blk.new w2 35 zeros32)
  have BW := Lib.hid (below_setRow (B2.out.alloc B2.out.size (.cells zeros32 35)) B2.out.size V)
  clear hb2
  go_wp2_with (first | (with_reducible refine wpList_alloc_named rfl 35 rfl zeros32 hz32 ?_) | (refine wpList_store_row rfl 35 (.tmp 4) (.tmp 22) rfl w2.heap.size V rfl rfl 35 zeros32 BH.out U2.out U3.out U4.out ?_))
  go_ret
  exact ⟨rfl, BW.out⟩

theorem run_state (s : St) (n : Nat) (W : World) : (Instr.field 42 (.agg (hashV s (.slice none 0 0) n)) 0).run Tryd.prog W = .ok (.agg s.vals) W := by
  unfold hashV St.vals
  kernel_rfl
/-- the row that the law pads. -/
structure RowW (w X : World) (v : Value) (l : List UInt8) : Prop where
  own : X.ownsRow w.heap.size 5 1 v l.length (bv l)
  bel : Below w.heap.size w X
theorem RowW.next {w X X' : World} {v : Value} {l : List UInt8} (h : RowW w X v l) (hb : Below X.heap.size X X') : RowW w X' v l :=
  ⟨own_below h.own hb (fun y hy => (h.own.lt y hy).2), h.bel.trans (hb.mono h.bel.size)⟩
/-- the row and the state. -/
structure StW (w X : World) (gr : Nat) (n c : Nat) (L : List UInt8) (g : Nat) (s : St) : Prop where
  row : X.ownsRow w.heap.size 5 1 (.slice (some ⟨gr, 0, none⟩) n c) n (bv L)
  st : Blk X g 40 s.vals
  bel : Below w.heap.size w X
  hg : gr ≠ g
  hw : w.heap.size ≤ g
theorem StW.next {w X X' : World} {gr n c g : Nat} {L : List UInt8} {s : St} (h : StW w X gr n c L g s) (hb : Below X.heap.size X X') : StW w X' gr n c L g s :=
  ⟨own_below h.row hb (fun y hy => (h.row.lt y hy).2), h.st.below hb h.st.lt, h.bel.trans (hb.mono h.bel.size), h.hg, h.hw⟩
theorem stW_set {w X : World} {gr n c g : Nat} {L : List UInt8} {cs : Array Value} (row : X.ownsRow w.heap.size 5 1 (.slice (some ⟨gr, 0, none⟩) n c) n (bv L)) (st : Blk X g 40 cs) (bel : Below w.heap.size w X) (hg : gr ≠ g) (hw : w.heap.size ≤ g) (s' : St) : StW w (X.setRow g s'.vals) gr n c L g s' := by
  refine ⟨⟨row.1, ?_⟩, st.row _, below_setRow bel hw _, hg, hw⟩
  rcases row.2 with h1 | ⟨g0, cap, cur, hv, a1, a2, a3, a4, a5⟩
  · exact .inl h1
  · have e : g0 = gr := by
      injection hv with e1
      injection e1 with e1
      injection e1 with e1
      exact e1.symm
    exact .inr ⟨g0, cap, cur, hv, a1, (setRow_other X g g0 _ (by rw [e]; exact hg)).trans a2, a3, a4, a5⟩
theorem StW.set {w X : World} {gr n c g : Nat} {L : List UInt8} {s : St} (h : StW w X gr n c L g s) (s' : St) : StW w (X.setRow g s'.vals) gr n c L g s' := stW_set h.row h.st h.bel h.hg h.hw s'
theorem own_hd {w : World} {base n : Nat} {e : TypeId} {A : Option Addr} {c : Nat} {xs : List Value} (h : w.ownsRow base e 1 (.slice A n c) n xs) (hn : 0 < n) : ∃ g, A = some ⟨g, 0, none⟩ ∧ base ≤ g ∧ g < w.heap.size := by
  have hl := h.lt
  rcases h.2 with ⟨_, h0⟩ | ⟨g, cap, cur, hv, _⟩
  · omega
  · injection hv with hv
    subst hv
    obtain ⟨h1, h2⟩ := hl g rfl
    exact ⟨g, rfl, h1, h2⟩
def bkA (ch : List UInt8) (k : Nat) : Array Value := (bv (ch.take k ++ List.replicate (64 - k) 0)).toArray
theorem bkA_step {ch : List UInt8} {k : Nat} {x : UInt8} (hk : k < 64) (hx : ch[k]? = some x) : (bkA ch k).setIfInBounds k (u8v x) = bkA ch (k + 1) := by
  have hl : k < ch.length := (List.getElem?_eq_some_iff.1 hx).1
  unfold bkA
  rw [List.setIfInBounds_toArray]
  congr 1
  rw [List.take_add_one, hx, show 64 - k = (64 - (k + 1)) + 1 from by omega, List.replicate_succ]
  simp only [bv, List.map_append, List.map_cons, Option.toList_some, List.append_assoc, List.map_nil, List.cons_append, List.nil_append]
  rw [List.set_append_right _ _ (by simp; omega)]
  simp [Nat.min_eq_left (Nat.le_of_lt hl)]
theorem bkA_zero (ch : List UInt8) : bkA ch 0 = zerosB := by
  apply Array.toList_inj.1
  rw [zerosB_list]
  unfold bkA
  simp
theorem bkA_at {ch : List UInt8} {k : Nat} (hk : k < 64) (hl : k ≤ ch.length) : (bkA ch k)[k]? = some (.int .u8 0) := by
  unfold bkA
  rw [List.getElem?_toArray, show 64 - k = (64 - (k + 1)) + 1 from by omega, List.replicate_succ, bv_append, List.getElem?_append_right (by simp [bv]; omega)]
  simp [bv, u8v, Nat.min_eq_left hl]
theorem bkA_last {ch : List UInt8} (h : ch.length = 64) : bkA ch 64 = (bv ch).toArray := by
  unfold bkA
  rw [List.take_of_length_le (by omega)]
  simp
/-- one byte more. -/
theorem RowW.app {w X X' : World} {v v' : Value} {l : List UInt8} {x : UInt8} (h : RowW w X v l) (o : Obj) (hg : (X.alloc o).grownBy X' v.ownBlock) (hown : X'.ownsRow w.heap.size 5 1 v' (l.length + 1) (bv l ++ [u8v x])) : RowW w X' v' (l ++ [x]) := by
  have hs := h.bel.size
  refine ⟨?_, (h.bel.alloc hs _).grown hg (by simp; omega) (fun y hy => (h.own.lt y hy).1)⟩
  rw [bv_append, List.length_append]
  exact hown

set_option maxHeartbeats 6400000 in
theorem blocks_ok (A : Option Addr) (n c : Nat) (l : List UInt8) (w : World) (hr : Reads w w.heap.size 1 A n (bv l)) (hn : n ≤ 8192) (hrc : HasRc w) (hfs : HasFs w) :
    Calls Tryd.prog 11 #[.slice A n c] w fun e w' => e = .returned (.bool true) ∧ Below w.heap.size w w' := by
  obtain ⟨i0, hi, hz0, hz1, hz2⟩ := info_parts u8_info
  have hlen : l.length = n := by have := hr.1; simpa using this
  have HRC := Lib.hid hrc; have HFS := Lib.hid hfs
  have SM := Lib.hid (fun W (hb : Below w.heap.size w W) => sum_ok A n c l W ((hr.below hb).more hb.size) hn (hrc.below hb hrc.1) (hfs.below hb hfs.1))
  have ST := Lib.hid (fun W (hb : Below w.heap.size w W) => start_any W (hfs.below hb hfs.1))
  have RW := Lib.hid (fun W (hb : Below w.heap.size w W) => hr.below hb)
  have HL := Lib.hid hlen
  have k1 : (n : Int) ≤ 8192 := by omega
  clear hr hlen hrc hfs
  go_enter Tryd.func11, Tryd.ntmps11
  go_wp2_with fail
  refine (alive_true _ HRC.out HFS.out).mono ?_
  rintro e w1 ⟨rfl, hb1⟩
  have B1 := Lib.hid hb1
  clear hb1
  have hown0 := own_new0 (B := w.heap.size) w1 5 B1.out.size
  go_wp2_with (first | (at_builtin; refine wpList_append_any _ rfl _ _ 22 rfl w.heap.size 5 i0 (.int .u8 0) 1 1 Tryd.underlying22 hi hz0 hz1 hz2 rfl (by decide) _ _ _ rfl hown0 w.heap.size _ _ _ _ rfl ((RW.out _ B1.out).alloc B1.out.size _) (bv_oneCell _) (by unfold maxLen; omega) (by omega) (by have := B1.out.size; simp; omega) ?_; intro v2 w2 hown2 hg2 _; have hb2 : Below w.heap.size w w2 := (B1.out.alloc B1.out.size _).grown hg2 (by have := B1.out.size; simp; omega) (fun g h => (hown0.lt g h).1); rw [show (0 + n = n) from by omega, List.nil_append] at hown2; have RX : Hid (RowW w w2 v2 l) := Lib.hid ⟨by rw [HL.out]; exact hown2, hb2⟩; clear hown2 hb2 hg2) | (at_builtin; refine wpList_append_any _ rfl _ _ 22 rfl w.heap.size 5 i0 (.int .u8 0) 1 1 Tryd.underlying22 hi hz0 hz1 hz2 rfl (by decide) _ _ _ rfl (RX.out.own.alloc _) (w2.heap.size + 1) _ 1 1 _ rfl (reads_new1 (u := u8v 128) _ _ rfl) (bv_oneCell [_]) (by rw [HL.out]; unfold maxLen; omega) (by rw [HL.out]; omega) (by have := RX.out.bel.size; simp; omega) ?_; intro v3 w3 hown3 hg3 _; have R3 : Hid (RowW w w3 v3 (l ++ [128])) := Lib.hid (RX.out.app (x := 128) _ hg3 hown3); clear hown3 hg3))
  replace RX : Hid (RowW w w3 v3 (padZ l 0)) := Lib.hid (by have := R3.out; rw [show padZ l 0 = l ++ [128] from by simp [padZ]]; exact this)
  clear R3 hown0 B1
  have HZL : Hid (∀ z, (padZ l z).length = n + 1 + z) := Lib.hid (fun z => by rw [padZ_len, HL.out])
  obtain ⟨Z, hZ⟩ : ∃ Z, Z = (119 - n % 64) % 64 := ⟨_, rfl⟩
  have HZ : Hid (∀ z, z ≤ Z → ((n + 1 + z) % 64 = 56 ↔ z = Z)) := Lib.hid (fun z h => by rw [hZ] at h ⊢; exact padZ_stop h)
  have hZ64 : Z ≤ 63 := by omega
  have HZE := Lib.hid hZ
  clear hZ
  go_loopw [6] (fun v wr => ∃ (z : Nat), z ≤ Z ∧ Hid (RowW w wr v (padZ l z)))
    (fun v _ => match v with | .slice _ m _ => n + 1 + Z - m | _ => 0)
  case atStart => exact ⟨0, Nat.zero_le _, RX⟩
  case round =>
    obtain ⟨z, hz, hRX⟩ := hrel
    clear RX
    have RX := hRX
    clear hRX
    obtain ⟨m, hm⟩ : ∃ m, m = n + 1 + z := ⟨_, rfl⟩
    have hol := RX.out.own
    rw [HZL.out, ← hm] at hol
    obtain ⟨A3, c3, rfl, _, _, _⟩ := own_form hol
    have HOL := Lib.hid hol
    have HM := Lib.hid hm
    have hm0 : (0 : Int) ≤ (m : Int) := by omega
    have hst := HZ.out z hz
    rw [← hm] at hst
    clear hol
    by_cases hzZ : z = Z
    · have d1 : ((m : Int) % 64 != 56) = false := by rw [bne_eq_false_iff_eq]; have := hst.2 hzZ; omega
      have d2 : ((m : Int).tmod 64 != 56) = false := by rw [Int.tmod_eq_emod_of_nonneg hm0]; exact d1
      subst hzZ
      have R0 : Hid (RowW w wr (.slice A3 m c3) (padL l 0)) := Lib.hid (by
        have := RX.out
        rw [show padL l 0 = padZ l z from by unfold padL; rw [List.take_zero, List.append_nil, HL.out, ← HZE.out]]
        exact this)
      clear hst hm RX HOL
      have HLL : Hid (∀ k, k ≤ 8 → (padL l k).length = n + 1 + z + k) := Lib.hid (fun k h => by rw [padL_len l h, HL.out, HZE.out])
      go_wp2
      clear d1 d2 hm0
      go_loopw [6, 7] (fun v i wr => ∃ (k : Nat), k ≤ 8 ∧ i = .int .i64 (7 - (k : Int)) ∧ Hid (RowW w wr v (padL l k)))
        (fun _ i _ => (intOf i + 1).toNat)
      case atStart => exact ⟨0, Nat.zero_le _, rfl, R0⟩
      case round =>
        obtain ⟨k, hk, rfl, hRX⟩ := hrel
        clear R0
        have RX := hRX
        clear hRX
        by_cases hlt : k < 8
        · have j0 : (0 : Int) ≤ 7 - (k : Int) := by omega
          have j1 : (7 - (k : Int)) ≤ 7 := by omega
          have hv : Value.int .u8 ((n : Int) * 8 / 2 ^ (8 * (7 - k)) % 256) = u8v (UInt8.ofNat (8 * l.length / 256 ^ (7 - k))) := by
            rw [HL.out, ← u8v_shr]
            congr 3
            omega
          have hol := RX.out.own
          rw [HLL.out k hk] at hol
          obtain ⟨m2, hm2⟩ : ∃ m2, m2 = n + 1 + z + k := ⟨_, rfl⟩
          rw [← hm2] at hol
          have HOL := Lib.hid hol
          have HM2 := Lib.hid hm2
          have hm8 : m2 ≤ 10000 := by omega
          have HV := Lib.hid hv
          clear hol hm2 hv
          go_wp2_with (at_builtin; refine wpList_append_any _ rfl _ _ 22 rfl w.heap.size 5 i0 (.int .u8 0) 1 1 Tryd.underlying22 hi hz0 hz1 hz2 rfl (by decide) _ _ _ rfl (HOL.out.alloc _) (wr.heap.size + 1) _ 1 1 _ rfl (reads_new1 (u := u8v (UInt8.ofNat (8 * l.length / 256 ^ (7 - k)))) _ _ HV.out) (bv_oneCell [_]) (by unfold maxLen; omega) (by omega) (by have := RX.out.bel.size; simp; omega) ?_; intro v3 w3 hown3 hg3 _; have RN : Hid (RowW w w3 v3 (padL l (k + 1))) := Lib.hid (by rw [padL_snoc l hlt]; exact RX.out.app _ hg3 (by rw [HLL.out k hk, ← HM2.out]; exact hown3)); clear hown3 hg3)
          go_roundw
          case rel => exact ⟨k + 1, by omega, by go_num, by assumption⟩
          case measure => simp [intOf]; omega
        · obtain rfl : k = 8 := by omega
          have R0 : Hid (RowW w wr _ (l ++ padBytes n)) := Lib.hid (by have := RX.out; rw [padL_last, HL.out] at this; exact this)
          have hol := RX.out.own
          rw [HLL.out 8 (Nat.le_refl _)] at hol
          obtain ⟨m2, hm2⟩ : ∃ m2, m2 = n + 1 + z + 8 := ⟨_, rfl⟩
          rw [← hm2] at hol
          obtain ⟨A4, c4, rfl, _, _, _⟩ := own_form hol
          have HM2 := Lib.hid hm2
          have hm8 : m2 ≤ 10000 := by omega
          have HLP : Hid ((l ++ padBytes n).length = m2) := Lib.hid (by have := HLL.out 8 (Nat.le_refl _); rw [padL_last, HL.out] at this; rw [this, hm2])
          have HMB : Hid (m2 % 64 = 0) := Lib.hid (by have := padL_blocks l; rw [HLL.out 8 (Nat.le_refl _), ← hm2] at this; exact this)
          clear hol hm2 RX HLL hlt hk
          rw [show ((8 : Nat) : Int) = 8 from rfl]
          have hz8 := alloc8
          have FS := fun W => run_state iv 0 W
          go_wp2_with fail
          refine (ST.out _ R0.out.bel).mono ?_
          rintro e w4 ⟨rfl, hb4⟩
          replace R0 := Lib.hid (R0.out.next hb4)
          have BH := Lib.hid (Blk.new w4 40 zeros8)
          have T1 : Hid ((Tryd.prog.info? 40).map (·.size) = some iv.vals.size) := Lib.hid (by rw [size8, vals_size])
          have T2 : Hid (zeros8.size = iv.vals.size) := Lib.hid (by rw [zeros8_size, vals_size])
          have T3 := Lib.hid (vals_one iv)
          clear hb4
          go_wp2_with (first | (with_reducible refine wpList_alloc_named rfl 40 rfl zeros8 hz8 ?_) | (refine wpList_store_row rfl 40 (.tmp 8) (.tmp 57) rfl w4.heap.size iv.vals rfl rfl 40 zeros8 BH.out T1.out T2.out T3.out ?_))
          have hm2p : 0 < m2 := by have := HM2.out; omega
          have RO : Hid (w4.ownsRow w.heap.size 5 1 (.slice A4 m2 c4) m2 (bv (l ++ padBytes n))) := Lib.hid (by have := R0.out.own; rwa [HLP.out] at this)
          obtain ⟨gr, rfl, hgr, hgr2⟩ := own_hd RO.out hm2p
          have SW : Hid (StW w ((w4.alloc (.cells zeros8 40)).setRow w4.heap.size iv.vals) gr m2 c4 (l ++ padBytes n) w4.heap.size (absorbed iv (l ++ padBytes n) 0)) := Lib.hid (by
            exact stW_set (RO.out.alloc _) (Blk.new w4 40 zeros8) (R0.out.bel.alloc R0.out.bel.size _) (by omega) R0.out.bel.size iv)
          clear BH T1 T2 T3 RO hm2p R0 FS hgr hgr2
          generalize World.setRow _ _ _ = X4 at SW ⊢
          generalize w4.heap.size = g at SW ⊢
          obtain ⟨L, hL⟩ : ∃ L, L = l ++ padBytes n := ⟨_, rfl⟩
          rw [← hL] at SW HLP
          have HLL := Lib.hid hL
          clear hL HZ HZL
          go_wp2
          go_loopw [9] (fun i wr => ∃ (j q : Nat), i = .int .i64 (q : Int) ∧ q ≤ m2 ∧ Hid (q = 64 * j) ∧ Hid (StW w wr gr m2 c4 L g (absorbed iv L j)))
            (fun i _ => m2 - (intOf i).toNat)
          case atStart => exact ⟨0, 0, rfl, Nat.zero_le _, Lib.hid rfl, SW⟩
          case round =>
            obtain ⟨j, q, rfl, hq, hqj, hSW⟩ := hrel
            clear SW
            have SW := hSW
            clear hSW
            have q0 : (0 : Int) ≤ (q : Int) := by omega
            by_cases hlt : q < m2
            · have q1 : (q : Int) < (m2 : Int) := by omega
              have HQ : Hid (q + 64 ≤ m2) := Lib.hid (by have := hqj.out; have := HMB.out; omega)
              have hzb := allocB
              have KB := Lib.hid (Blk.new wr 48 zerosB)
              have BB := Lib.hid ((Below.refl wr.heap.size wr).alloc (Nat.le_refl _) (.cells zerosB 48))
              go_wp2_with (with_reducible refine wpList_alloc_named rfl 48 rfl zerosB hzb ?_)
              generalize World.alloc _ _ = X5 at KB BB ⊢
              generalize hgb : wr.heap.size = gb at KB BB ⊢
              have SX := Lib.hid (fun X (hb : Below gb wr X) => SW.out.next (X' := X) (by rw [hgb]; exact hb))
              have HGB := Lib.hid hgb
              obtain ⟨ch, hch⟩ : ∃ ch, ch = (L.drop (64 * j)).take 64 := ⟨_, rfl⟩
              have hcl : ch.length = 64 := by rw [hch, List.length_take, List.length_drop, HLP.out]; have := HQ.out; have := hqj.out; omega
              have HCL := Lib.hid hcl
              have HAT : Hid (∀ k, k < 64 → ∃ x, ch[k]? = some x ∧ L[q + k]? = some x) := Lib.hid (fun k hk => by
                refine ⟨ch[k]'(by omega), List.getElem?_eq_getElem (by omega), ?_⟩
                rw [← List.getElem?_eq_getElem (by omega), hch, List.getElem?_take_of_lt hk, List.getElem?_drop, hqj.out])
              have HCH := Lib.hid hch
              rw [← bkA_zero ch] at KB
              clear hch hcl hgb
              go_wp2
              go_loopw [11] (fun i wx => ∃ k : Nat, k ≤ 64 ∧ i = .int .i64 (k : Int) ∧ Hid (Blk wx gb 48 (bkA ch k)) ∧ Hid (Below gb wr wx))
                (fun i _ => 64 - (intOf i).toNat)
              case atStart => exact ⟨0, Nat.zero_le _, rfl, KB, BB⟩
              case round =>
                obtain ⟨k, hk, rfl, hKB, hBB⟩ := hrel
                clear KB BB
                have KB := hKB
                have BB := hBB
                clear hKB hBB
                by_cases hk64 : k < 64
                · obtain ⟨x, hx1, hx2⟩ := HAT.out k hk64
                  have hc1 := KB.out.cellv k (bkA_at hk64 (by rw [HCL.out]; omega))
                  have hf1 := KB.out.frozen k
                  have hcell : wr.cell? ⟨gr, q + k, none⟩ = some (.int .u8 (x.toNat : Int)) := by
                    rw [(SX.out _ BB.out).row.cellAt (q + k) (by have := HQ.out; omega)]
                    simp [bv, hx2, u8v]
                  have k0 : (0 : Int) ≤ (k : Int) := by omega
                  have k1' : (k : Int) < 64 := by omega
                  have k2 : (q : Int) + (k : Int) < (m2 : Int) := by have := HQ.out; omega
                  have HS : Hid (Blk (wr.setCell ⟨gb, k, none⟩ (.int .u8 (x.toNat : Int))) gb 48 (bkA ch (k + 1))) := Lib.hid (by rw [← bkA_step hk64 hx1]; exact KB.out.set_ k (u8v x))
                  have HB := Lib.hid (BB.out.setCell (p := ⟨gb, k, none⟩) (by simp) (.int .u8 (x.toNat : Int)))
                  clear hx1 hx2
                  go_wp2
                  go_roundw
                  case rel => exact ⟨k + 1, by omega, by go_num, HS, HB⟩
                  case measure => simp [intOf]; omega
                · obtain rfl : k = 64 := by omega
                  have KC : Hid (Blk wr gb 48 (bv ch).toArray) := Lib.hid (by have := KB.out; rwa [bkA_last HCL.out] at this)
                  have SW := Lib.hid (SX.out _ BB.out)
                  have CP := Lib.hid (fun W (hb : Below w.heap.size w W) => compress_any (absorbed iv L j) ch W (absorbed_ok iv_ok L j) HCL.out (HRC.out.below hb HRC.out.1))
                  have R1 : Hid ((Tryd.prog.info? 40).map (·.size) = some (absorbed iv L j).vals.size) := Lib.hid (by rw [size8, vals_size])
                  have R2 : Hid ((Tryd.prog.info? 48).map (·.size) = some (bv ch).toArray.size) := Lib.hid (by rw [size48]; simp only [List.size_toArray, bv_length]; rw [HCL.out])
                  have hst : compress (absorbed iv L j) ch = absorbed iv L (j + 1) := by rw [HCH.out]; rfl
                  rw [hst] at CP
                  clear hst KB BB SX HAT hk hk64
                  rw [show ((64 : Nat) : Int) = 64 from rfl]
                  generalize hS : absorbed iv L j = S at SW CP R1
                  generalize hT : absorbed iv L (j + 1) = T at CP
                  have HT := Lib.hid hT
                  clear hS hT
                  go_wp2_with (first | (refine wpList_load_row rfl 40 (.tmp 8) rfl g rfl 40 _ (0, 0) _ SW.out.st Tryd.underlying40 rfl R1.out ?_) | (refine wpList_load_row rfl 48 (.tmp 10) rfl gb rfl 48 _ (0, 0) _ KC.out Tryd.underlying48 rfl R2.out ?_))
                  refine (CP.out _ SW.out.bel).mono ?_
                  rintro e w6 ⟨rfl, hb6⟩
                  replace SW := Lib.hid (SW.out.next hb6)
                  have R3 : Hid ((Tryd.prog.info? 40).map (·.size) = some T.vals.size) := Lib.hid (by rw [size8, vals_size])
                  have R4 : Hid (S.vals.size = T.vals.size) := Lib.hid (by rw [vals_size, vals_size])
                  have R5 := Lib.hid (vals_one T)
                  have SN := Lib.hid (SW.out.set T)
                  clear hb6
                  go_wp2_with (refine wpList_store_row rfl 40 (.tmp 8) (.tmp 78) rfl g _ (by simp [Act.eval, Act.put]) (by simp [Act.eval, Act.put]) 40 _ SW.out.st R3.out R4.out R5.out ?_)
                  go_roundw
                  case rel => exact ⟨j + 1, q + 64, by go_num, HQ.out, Lib.hid (by have := hqj.out; omega), by rw [HT.out]; exact SN⟩
                  case measure => simp [intOf]; omega
            · have hqm : q = m2 := by omega
              have hfin : Hid (sumBytes (absorbed iv L j) = shaB l) := Lib.hid (by
                rw [shaB_whole, HL.out, ← HLL.out]
                congr 2
                have h1 : n + (padBytes n).length = m2 := by have := HLP.out; rw [HLL.out, List.length_append, HL.out] at this; exact this
                rw [h1]
                have := hqj.out
                omega)
              have hok := absorbed_ok iv_ok L j
              generalize absorbed iv L j = S at SW hfin hok
              have hsD : (Tryd.prog.info? 35).map (·.size) = some (bv (shaB l)).toArray.size := by rw [size32]; simp [shaB_length]
              have hoD : zeros32.size = (bv (shaB l)).toArray.size := by rw [zeros32_size]; simp [shaB_length]
              have h1D : (bv (shaB l)).toArray.all (·.oneCell') = true := by
                rw [Array.all_eq_true_iff_forall_mem]
                intro v hv
                exact bv_oneCell (shaB l) v (by simpa using hv)
              have U2 := Lib.hid hsD; have U3 := Lib.hid hoD; have U4 := Lib.hid h1D
              have HOK := Lib.hid hok
              have hz32 := alloc32
              subst hqm
              clear hsD hoD h1D hok hlt hq hqj HLL HLP HMB HM2
              go_wp2_with fail
              refine (SM.out _ SW.out.bel).mono ?_
              rintro e w7 ⟨rfl, hb7⟩
              replace SW := Lib.hid (SW.out.next hb7)
              have BH := Lib.hid (Blk.new w7 35 zeros32)
              clear hb7
              go_wp2_with (first | (with_reducible refine wpList_alloc_named rfl 35 rfl zeros32 hz32 ?_) | (refine wpList_store_row rfl 35 (.tmp 12) (.tmp 82) rfl w7.heap.size (bv (shaB l)).toArray rfl rfl 35 zeros32 BH.out U2.out U3.out U4.out ?_))
              have KX : Hid (Blk ((w7.alloc (.cells zeros32 35)).setRow w7.heap.size (bv (shaB l)).toArray) w7.heap.size 35 (bv (shaB l)).toArray) := Lib.hid (BH.out.row _)
              have KS : Hid (Blk ((w7.alloc (.cells zeros32 35)).setRow w7.heap.size (bv (shaB l)).toArray) g 40 S.vals) := Lib.hid ((SW.out.st.alloc _).rowFar (by have := SW.out.st.lt; omega) _)
              have BW := Lib.hid (below_setRow (SW.out.bel.alloc SW.out.bel.size (.cells zeros32 35)) SW.out.bel.size (bv (shaB l)).toArray)
              clear U2 U3 U4 BH SW
              generalize World.setRow _ _ _ = X9 at KX KS BW ⊢
              generalize w7.heap.size = gx at KX ⊢
              go_loopw [14] (fun i wx => ∃ k : Nat, k ≤ 32 ∧ i = .int .i64 (k : Int) ∧ ∃ d, wx = X9.drewN d) (fun i _ => 32 - (intOf i).toNat)
              case atStart => exact ⟨0, Nat.zero_le _, rfl, 0, rfl⟩
              case round =>
                obtain ⟨k, hk, rfl, d, rfl⟩ := hrel
                by_cases hk32 : k < 32
                · obtain ⟨Q, hQ⟩ : ∃ Q, Q = k / 4 := ⟨_, rfl⟩
                  obtain ⟨wd, hwd⟩ : ∃ wd, S.list[Q]? = some wd := ⟨_, List.getElem?_eq_getElem (by rw [St.list_length]; omega)⟩
                  have hsx := sum_at S hk32 (by rw [← hQ]; exact hwd)
                  rw [hfin.out] at hsx
                  have hS : X9.cell? ⟨g, Q, none⟩ = some (.int .u32 (wd : Int)) := KS.out.cellv Q (by rw [vals_eq]; simp [wv, hwd, u32v])
                  have hX0 : X9.cell? ⟨gx, k, none⟩ = some (.int .u8 ((wd : Int) / 2 ^ (8 * (3 - k % 4)) % 256)) := KX.out.cellv k (by rw [u8v_shr]; simp [bv, hsx])
                  have t1 : (k : Int) / 4 = (Q : Int) := by omega
                  have t2 : (k : Int).tdiv 4 = (Q : Int) := by rw [Int.tdiv_eq_ediv_of_nonneg (by omega)]; exact t1
                  have q0 : (0 : Int) ≤ (Q : Int) := by omega
                  have q1 : (Q : Int) < 8 := by omega
                  have q2 : IntKind.i64.wrap (Q : Int) = (Q : Int) := IntWalk.i64_in _ (by omega)
                  have k0 : (0 : Int) ≤ (k : Int) := by omega
                  have k1' : (k : Int) < 32 := by omega
                  have w0 : IntKind.i64.wrap 0 = 0 := IntWalk.i64_in _ (by omega)
                  have w1' : IntKind.i64.wrap 8 = 8 := IntWalk.i64_in _ (by omega)
                  have w2' : IntKind.i64.wrap 16 = 16 := IntWalk.i64_in _ (by omega)
                  have w3' : IntKind.i64.wrap 24 = 24 := IntWalk.i64_in _ (by omega)
                  have hR : k % 4 = 0 ∨ k % 4 = 1 ∨ k % 4 = 2 ∨ k % 4 = 3 := by omega
                  have HX0 := Lib.hid hX0
                  clear hX0 hsx hwd hQ t1
                  rcases hR with hR | hR | hR | hR
                  · have hX : X9.cell? ⟨gx, k, none⟩ = some (.int .u8 ((wd : Int) / 16777216 % 256)) := by rw [HX0.out, hR]; simp
                    have t3 : (k : Int) % 4 = 0 := by omega
                    have t4 : (k : Int).tmod 4 = 0 := by rw [Int.tmod_eq_emod_of_nonneg k0]; exact t3
                    clear hR
                    go_wp2
                    go_quiet (fail)
                    go_wp2
                    go_roundw
                    case rel => exact ⟨k + 1, by omega, by go_num, d + nq, rfl⟩
                    case measure => simp [intOf]; omega
                  · have hX : X9.cell? ⟨gx, k, none⟩ = some (.int .u8 ((wd : Int) / 65536 % 256)) := by rw [HX0.out, hR]; simp
                    have t3 : (k : Int) % 4 = 1 := by omega
                    have t4 : (k : Int).tmod 4 = 1 := by rw [Int.tmod_eq_emod_of_nonneg k0]; exact t3
                    clear hR
                    go_wp2
                    go_quiet (fail)
                    go_wp2
                    go_roundw
                    case rel => exact ⟨k + 1, by omega, by go_num, d + nq, rfl⟩
                    case measure => simp [intOf]; omega
                  · have hX : X9.cell? ⟨gx, k, none⟩ = some (.int .u8 ((wd : Int) / 256 % 256)) := by rw [HX0.out, hR]; simp
                    have t3 : (k : Int) % 4 = 2 := by omega
                    have t4 : (k : Int).tmod 4 = 2 := by rw [Int.tmod_eq_emod_of_nonneg k0]; exact t3
                    clear hR
                    go_wp2
                    go_quiet (fail)
                    go_wp2
                    go_roundw
                    case rel => exact ⟨k + 1, by omega, by go_num, d + nq, rfl⟩
                    case measure => simp [intOf]; omega
                  · have hX : X9.cell? ⟨gx, k, none⟩ = some (.int .u8 ((wd : Int) % 256)) := by rw [HX0.out, hR]; simp
                    have t3 : (k : Int) % 4 = 3 := by omega
                    have t4 : (k : Int).tmod 4 = 3 := by rw [Int.tmod_eq_emod_of_nonneg k0]; exact t3
                    clear hR
                    go_wp2
                    go_quiet (fail)
                    go_wp2
                    go_roundw
                    case rel => exact ⟨k + 1, by omega, by go_num, d + nq, rfl⟩
                    case measure => simp [intOf]; omega
                · obtain rfl : k = 32 := by omega
                  rw [show ((32 : Nat) : Int) = 32 from rfl]
                  have BD := Lib.hid (below_drewN BW.out d)
                  go_wp2
                  go_ret
                  exact ⟨rfl, BD.out⟩
    · have d1 : ((m : Int) % 64 != 56) = true := by rw [bne_iff_ne]; intro h; exact hzZ (hst.1 (by omega))
      have d2 : ((m : Int).tmod 64 != 56) = true := by rw [Int.tmod_eq_emod_of_nonneg hm0]; exact d1
      have hm8 : m ≤ 10000 := by omega
      have hzl : z + 1 ≤ Z := by omega
      clear hst hm hzZ
      go_wp2_with (at_builtin; refine wpList_append_any _ rfl _ _ 22 rfl w.heap.size 5 i0 (.int .u8 0) 1 1 Tryd.underlying22 hi hz0 hz1 hz2 rfl (by decide) _ _ _ rfl (HOL.out.alloc _) (wr.heap.size + 1) _ 1 1 _ rfl (reads_new1 (u := u8v 0) _ _ rfl) (bv_oneCell [_]) (by unfold maxLen; omega) (by omega) (by have := RX.out.bel.size; simp; omega) ?_; intro v3 w3 hown3 hg3 _; have RN : Hid (RowW w w3 v3 (padZ l (z + 1))) := Lib.hid (by rw [padZ_snoc]; exact RX.out.app (x := 0) _ hg3 (by rw [HZL.out, ← HM.out]; exact hown3)); obtain ⟨A4, c4, rfl, _, _, _⟩ := own_form hown3; clear hown3 hg3)
      go_roundw
      case rel => exact ⟨z + 1, hzl, by assumption⟩
      case measure => simp; have := HM.out; omega
theorem digestBlocks_walk (A : Option Addr) (n c : Nat) (l : List UInt8) (w : World) (hr : Reads w w.heap.size 1 A n (bv l)) (hnc : n ≤ c) (hc : c ≤ 140737488351232) (hrc : HasRc w) (hfs : HasFs w) :
    Calls Tryd.prog 11 #[.slice A n c] w fun e w' => e = .returned (.bool true) ∧ Below w.heap.size w w' := by
  by_cases h : n ≤ 8192
  · exact blocks_ok A n c l w hr h hrc hfs
  · exact blocks_many A n c w (by omega) (by omega) hrc hfs
end Go.Proofs.YtpoppfmlphkakaaDoor.digestBlocks
