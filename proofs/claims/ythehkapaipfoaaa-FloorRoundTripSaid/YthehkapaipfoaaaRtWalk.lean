/-
  FLOORROUNDTRIP: the walk.
-/
import Derived.Test.YthehkapaipfoaaaFlRef3
import Derived.Test.YthehkapaipfoaaaTextMath2
namespace Go.Proofs.Ythehkapaipfoaaa
set_option linter.unusedVariables false
set_option linter.unusedSimpArgs false
set_option maxRecDepth 100000
open Go.RowKit

/-- a floor that came in, and one of the call's own whose cells are turned. -/
structure RtW (w X : World) (a b : Int) (A : Option Addr) (n c : Nat) (l : List UInt8) (g1 g2 cg : Nat) (l' : List UInt8) : Prop where
  kf : Blk X w.heap.size 34 (b3 a b (.slice A n c))
  kg : Blk X g2 34 (b3 a b (.slice (some ⟨g1, 0, none⟩) n cg))
  rf : Reads X w.heap.size 1 A n (bv l)
  own : X.ownsRow (w.heap.size + 1) 5 1 (.slice (some ⟨g1, 0, none⟩) n cg) n (bv l')
  bel : Below w.heap.size w X
  hg : g1 ≠ g2
theorem RtW.next {w X X' : World} {a b : Int} {A : Option Addr} {n c : Nat} {l l' : List UInt8} {g1 g2 cg : Nat} (h : RtW w X a b A n c l g1 g2 cg l') (hb : Below X.heap.size X X') : RtW w X' a b A n c l g1 g2 cg l' :=
  ⟨h.kf.below hb h.kf.lt, h.kg.below hb h.kg.lt, h.rf.below (hb.mono h.bel.size), own_below h.own hb (fun y hy => (h.own.lt y hy).2), h.bel.trans (hb.mono h.bel.size), h.hg⟩
theorem RtW.set {w X : World} {a b : Int} {A : Option Addr} {n c : Nat} {l l' : List UInt8} {g1 g2 cg : Nat} (h : RtW w X a b A n c l g1 g2 cg l') (k : Nat) (y : UInt8) : RtW w (X.setCell ⟨g1, k, none⟩ (u8v y)) a b A n c l g1 g2 cg (l'.set k y) := by
  have hl := (h.own.lt g1 rfl).1
  refine ⟨h.kf.far (by simp; omega) _, h.kg.far (by have := h.hg; simp; omega) _, h.rf.setCell (by simp; omega) _, ?_, h.bel.setCell (by simp; omega) _, h.hg⟩
  have := (h.own.stored k (u8v y)).1
  rwa [bv_set] at this
theorem rtW_made {w x : World} {a b : Int} {A : Option Addr} {n c : Nat} {l : List UInt8} {g1 cg : Nat} (hkf : FBox w x a b (.slice A n c)) (hrf : Reads x w.heap.size 1 A n (bv l))
    (hown : x.ownsRow (w.heap.size + 1) 5 1 (.slice (some ⟨g1, 0, none⟩) n cg) n (bv l)) : RtW w (x.alloc (.cells #[.int .i64 a, .int .i64 b, .slice (some ⟨g1, 0, none⟩) n cg] 34)) a b A n c l g1 x.heap.size cg l := by
  have hbw := hkf.bel.size
  have hl := (hown.lt g1 rfl).2
  exact ⟨hkf.kf.alloc _, Blk.new x 34 (b3 a b (.slice (some ⟨g1, 0, none⟩) n cg)), hrf.alloc hbw _, hown.alloc _, hkf.bel.alloc hbw _, by omega⟩

theorem reads_alloc_more {w : World} {size n : Nat} {A : Option Addr} {xs : List Value} (h : Reads w w.heap.size size A n xs) (o : Obj) : Reads (w.alloc o) (w.alloc o).heap.size size A n xs := (h.alloc (Nat.le_refl _) o).more (by simp)
theorem own_head' {w : World} {base n : Nat} {e : TypeId} {A : Option Addr} {c : Nat} {xs : List Value} (h : w.ownsRow base e 1 (.slice A n c) n xs) (hn : 0 < n) : ∃ g, A = some ⟨g, 0, none⟩ ∧ base ≤ g ∧ g < w.heap.size := by
  have hl := h.lt
  rcases h.2 with ⟨_, h0⟩ | ⟨g, cap, cur, hv, _⟩
  · omega
  · injection hv with hv
    subst hv
    obtain ⟨h1, h2⟩ := hl g rfl
    exact ⟨g, rfl, h1, h2⟩
theorem str_back (s : ByteArray) : (⟨s.data.toList.toArray⟩ : ByteArray) = s := by cases s; simp
/-- Parse of a text whose floor is known. -/
theorem parse_known {s : ByteArray} {W H : Nat} {cells : List UInt8} {er : Int} (hs : s.size ≤ 140737488351232) (h : parseF s.data.toList = (W, H, cells, er)) (x : World) :
    Calls Try.prog 33 #[.string s] x fun e w' => ∃ A' c', e = .returned (.tuple #[.agg #[.int .i64 (W : Int), .int .i64 (H : Int), .slice A' cells.length c'], .int .i64 er]) ∧ Hid (w'.ownsRow x.heap.size 5 1 (.slice A' cells.length c') cells.length (bv cells)) ∧ Below x.heap.size x w' := by
  have hp := parse_any s x hs
  rw [h] at hp
  refine hp.mono ?_
  rintro e w' ⟨v, rfl, hown, hb⟩
  obtain ⟨A', c', rfl, _, _, _⟩ := own_form hown
  exact ⟨A', c', rfl, Lib.hid hown, hb⟩
/-- Draw of a floor that Parse came to. -/
theorem draw_known {s : ByteArray} {W H : Nat} {cells : List UInt8} (h : parseF s.data.toList = (W, H, cells, 0)) (A : Option Addr) (c : Nat) (x : World) (hr : Reads x x.heap.size 1 A cells.length (bv cells)) :
    Calls Try.prog 52 #[.agg #[.int .i64 (W : Int), .int .i64 (H : Int), .slice A cells.length c]] x fun e w' => e = .returned (.tuple #[.string s, .int .i64 0]) ∧ Below x.heap.size x w' := by
  obtain ⟨h1, h2⟩ := draw_parse h
  have hd := draw_any (W : Int) (H : Int) A cells.length c cells x hr (by have := floorB_len h1; omega)
  rw [show drawS (W : Int) (H : Int) cells = (s.data.toList, 0) from by unfold drawS; rw [if_pos h1, h2]] at hd
  simp only [str_back] at hd
  exact hd


set_option maxHeartbeats 1600000 in
theorem rt_inv_bad (a b : Int) (A : Option Addr) (n c : Nat) (l : List UInt8) (s : ByteArray) (w : World) (hr : Reads w w.heap.size 1 A n (bv l)) (hn : n ≤ 140737488351232) (hs : s.size ≤ 140737488351232) (hv : floorB a b l = false) (W H : Nat) (cells : List UInt8) (er : Int) (hp : parseF s.data.toList = (W, H, cells, er)) (he : er = 11 ∨ er = 50) :
    Calls Try.prog 15 #[.agg #[.int .i64 a, .int .i64 b, .slice A n c], .string s] w fun e w' => e = .returned (.bool true) ∧ Below w.heap.size w w' := by
  have PS := Lib.hid (fun x => parse_known hs hp x)
  have FB := Lib.hid (fbox w a b (.slice A n c))
  have V := Lib.hid (fun W (hb : Below w.heap.size w W) => validFloor_any a b A n c l W ((hr.below hb).more hb.size) hn)
  rw [hv] at V
  generalize cells.length = m at *
  clear hv hr hp hs
  rcases he with rfl | rfl
  all_goals
    go_enter Try.func15, Try.ntmps15
    go_wp2_with fail
    refine (falive_true _).mono ?_
    rintro e x ⟨rfl, hb⟩
    replace FB := Lib.hid (FB.out.next hb)
    clear hb
    have c0 := FB.out.kf.cellv 0 (v := .int .i64 a) rfl
    have c1 := FB.out.kf.cellv 1 (v := .int .i64 b) rfl
    have c2 := FB.out.kf.cellv 2 (v := .slice A n c) rfl
    go_wp2_with fail
    refine (V.out _ FB.out.bel).mono ?_
    rintro e x ⟨rfl, hb⟩
    have B := Lib.hid (FB.out.next hb).bel
    clear hb FB c0 c1 c2
    go_wp2_with fail
    refine (PS.out _).mono ?_
    rintro e y ⟨A2, c2, rfl, r2, hb⟩
    replace B := Lib.hid (B.out.trans (hb.mono B.out.size))
    clear hb r2
    go_wp2
    go_ret
    exact ⟨rfl, B.out.alloc B.out.size _⟩

set_option maxHeartbeats 1600000 in
theorem rt_inv_ok (a b : Int) (A : Option Addr) (n c : Nat) (l : List UInt8) (s : ByteArray) (w : World) (hr : Reads w w.heap.size 1 A n (bv l)) (hn : n ≤ 140737488351232) (hs : s.size ≤ 140737488351232) (hv : floorB a b l = false) (W H : Nat) (cells : List UInt8) (er : Int) (hp : parseF s.data.toList = (W, H, cells, er)) (he : er = 0) :
    Calls Try.prog 15 #[.agg #[.int .i64 a, .int .i64 b, .slice A n c], .string s] w fun e w' => e = .returned (.bool true) ∧ Below w.heap.size w w' := by
  subst he
  have PS := Lib.hid (fun x => parse_known hs hp x)
  have FB := Lib.hid (fbox w a b (.slice A n c))
  have V := Lib.hid (fun W (hb : Below w.heap.size w W) => validFloor_any a b A n c l W ((hr.below hb).more hb.size) hn)
  rw [hv] at V
  have DR := Lib.hid (fun x A c hr => draw_known hp A c x hr)
  have CK : Hid (∀ x A c, Reads x x.heap.size 1 A cells.length (bv cells) → Calls Try.prog 31 #[.agg #[.int .i64 (W : Int), .int .i64 (H : Int), .slice A cells.length c]] x fun e w' => e = .returned (.int .i64 0) ∧ Below x.heap.size x w') :=
    Lib.hid (fun x A c hr => by
      obtain ⟨h1, h2⟩ := draw_parse hp
      have := check_any (W : Int) (H : Int) A cells.length c cells x hr (by have := floorB_len h1; omega)
      rwa [if_pos h1] at this)
  generalize cells.length = m at *
  clear hv hr hp hs
  go_enter Try.func15, Try.ntmps15
  go_wp2_with fail
  refine (falive_true _).mono ?_
  rintro e x ⟨rfl, hb⟩
  replace FB := Lib.hid (FB.out.next hb)
  clear hb
  have c0 := FB.out.kf.cellv 0 (v := .int .i64 a) rfl
  have c1 := FB.out.kf.cellv 1 (v := .int .i64 b) rfl
  have c2 := FB.out.kf.cellv 2 (v := .slice A n c) rfl
  go_wp2_with fail
  refine (V.out _ FB.out.bel).mono ?_
  rintro e x ⟨rfl, hb⟩
  have B := Lib.hid (FB.out.next hb).bel
  clear hb FB c0 c1 c2
  go_wp2_with fail
  refine (PS.out _).mono ?_
  rintro e y ⟨A2, cp, rfl, ho, hb⟩
  replace B := Lib.hid (B.out.trans (hb.mono B.out.size))
  have KX := Lib.hid (Blk.new y 34 (b3 (W : Int) (H : Int) (.slice A2 m cp)))
  have BX := Lib.hid (B.out.alloc B.out.size (.cells #[.int .i64 (W : Int), .int .i64 (H : Int), .slice A2 m cp] 34))
  have RX := Lib.hid (reads_alloc_more (Reads.of_own ho.out) (.cells #[.int .i64 (W : Int), .int .i64 (H : Int), .slice A2 m cp] 34))
  clear hb ho B
  go_wp2_with fail
  refine (DR.out _ _ _ RX.out).mono ?_
  rintro e z ⟨rfl, hb⟩
  replace RX := Lib.hid ((RX.out.below hb).more hb.size)
  replace BX := Lib.hid (BX.out.trans (hb.mono BX.out.size))
  have kf := KX.out.below hb KX.out.lt
  have e0 := kf.cellv 0 (v := .int .i64 (W : Int)) rfl
  have e1 := kf.cellv 1 (v := .int .i64 (H : Int)) rfl
  have e2 := kf.cellv 2 (v := .slice A2 m cp) rfl
  clear kf hb KX
  go_wp2_with fail
  refine (CK.out _ _ _ RX.out).mono ?_
  rintro e z2 ⟨rfl, hb⟩
  replace BX := Lib.hid (BX.out.trans (hb.mono BX.out.size))
  clear hb e0 e1 e2
  go_wp2
  go_ret
  exact ⟨rfl, BX.out⟩

set_option maxHeartbeats 6400000 in
theorem rt_val_bad (a b : Int) (A : Option Addr) (n c : Nat) (l : List UInt8) (s : ByteArray) (w : World) (hr : Reads w w.heap.size 1 A n (bv l)) (hn : n ≤ 140737488351232) (hs : s.size ≤ 140737488351232) (hv : floorB a b l = true) (W H : Nat) (cells : List UInt8) (er : Int) (hp : parseF s.data.toList = (W, H, cells, er)) (he : er = 11 ∨ er = 50) :
    Calls Try.prog 15 #[.agg #[.int .i64 a, .int .i64 b, .slice A n c], .string s] w fun e w' => e = .returned (.bool true) ∧ Below w.heap.size w w' := by
  have PS := Lib.hid (fun x => parse_known hs hp x)
  have FB := Lib.hid (fbox w a b (.slice A n c))
  have V := Lib.hid (fun W (hb : Below w.heap.size w W) => validFloor_any a b A n c l W ((hr.below hb).more hb.size) hn)
  rw [hv] at V
  generalize cells.length = m at *
  have hlen : l.length = n := by have := hr.1; simpa using this
  have hll := floorB_len hv
  obtain ⟨⟨ha, hb'⟩, hab, _⟩ := floorB_yes hv
  obtain ⟨hpd, hdl⟩ := parse_draw hv
  have DF : Hid (∀ W, Below w.heap.size w W → Calls Try.prog 52 #[.agg #[.int .i64 a, .int .i64 b, .slice A n c]] W fun e w' => e = .returned (.tuple #[.string ⟨(drawTo l a l.length).toArray⟩, .int .i64 0]) ∧ Below W.heap.size W w') :=
    Lib.hid (fun W hb => by
      have := draw_any a b A n c l W ((hr.below hb).more hb.size) hn
      rwa [show drawS a b l = (drawTo l a l.length, 0) from by unfold drawS; rw [if_pos hv]] at this)
  have hdle := drawTo_le l a l.length
  obtain ⟨D, hD⟩ : ∃ D : ByteArray, D = ⟨(drawTo l a l.length).toArray⟩ := ⟨_, rfl⟩
  have hDs : (D.size : Int) = (a + 1) * b := by rw [← hdl, hD]; rfl
  have hDl : D.data.toList = drawTo l a l.length := by rw [hD]
  have hD2 : D.size ≤ 200 := by
    have : D.size = (drawTo l a l.length).length := by rw [hD]; rfl
    omega
  have PD : Hid (∀ W, Calls Try.prog 33 #[.string D] W fun e w' => ∃ A' c', e = .returned (.tuple #[.agg #[.int .i64 a, .int .i64 b, .slice A' n c'], .int .i64 0]) ∧ Hid (w'.ownsRow W.heap.size 5 1 (.slice A' n c') n (bv l)) ∧ Below W.heap.size W w') :=
    Lib.hid (fun W => by
      have := parse_known (s := D) (W := a.toNat) (H := b.toNat) (cells := l) (er := 0) (by omega) (by rw [hDl]; exact hpd) W
      rwa [show ((a.toNat : Nat) : Int) = a from Int.toNat_of_nonneg (by omega), show ((b.toNat : Nat) : Int) = b from Int.toNat_of_nonneg (by omega), hlen] at this)
  rw [← hD] at DF
  have hne : ((D.size : Int) != (a + 1) * b) = false := by rw [hDs]; simp
  have p0 : 0 ≤ (a + 1) * b := by rw [← hDs]; omega
  have p1 : (a + 1) * b ≤ 200 := by rw [← hDs]; omega
  obtain ⟨a2, a8⟩ := ha
  obtain ⟨b2, b8⟩ := hb'
  have RW := Lib.hid (fun W (hb : Below w.heap.size w W) => hr.below hb)
  have n4 : 4 ≤ n := by omega
  have n64 : n ≤ 64 := by omega
  clear hv hr hp hs hlen hll hab hpd hdl hdle hD hDs hDl hD2
  rcases he with rfl | rfl
  all_goals
    go_enter Try.func15, Try.ntmps15
    go_wp2_with fail
    refine (falive_true _).mono ?_
    rintro e x ⟨rfl, hb⟩
    replace FB := Lib.hid (FB.out.next hb)
    clear hb
    have c0 := FB.out.kf.cellv 0 (v := .int .i64 a) rfl
    have c1 := FB.out.kf.cellv 1 (v := .int .i64 b) rfl
    have c2 := FB.out.kf.cellv 2 (v := .slice A n c) rfl
    go_wp2_with fail
    refine (V.out _ FB.out.bel).mono ?_
    rintro e x ⟨rfl, hb⟩
    replace FB := Lib.hid (FB.out.next hb)
    clear hb c0 c1 c2
    have c0 := FB.out.kf.cellv 0 (v := .int .i64 a) rfl
    have c1 := FB.out.kf.cellv 1 (v := .int .i64 b) rfl
    have c2 := FB.out.kf.cellv 2 (v := .slice A n c) rfl
    go_wp2_with fail
    refine (DF.out _ FB.out.bel).mono ?_
    rintro e x ⟨rfl, hb⟩
    replace FB := Lib.hid (FB.out.next hb)
    have HSX := Lib.hid FB.out.kf.lt
    clear hb c0 c1 c2
    go_wp2_with fail
    refine (PD.out _).mono ?_
    rintro e x3 ⟨A1, cg, rfl, ho, hb⟩
    obtain ⟨g1, rfl, _, _⟩ := own_head' ho.out (by omega)
    replace FB := Lib.hid (FB.out.next hb)
    have RT := Lib.hid (rtW_made FB.out (RW.out _ FB.out.bel) (own_more ho.out HSX.out))
    clear hb ho FB HSX
    go_upto_region 5 with fail
    generalize World.alloc _ _ = X at RT ⊢
    generalize x3.heap.size = g2 at RT ⊢
    have c0 := RT.out.kf.cellv 0 (v := .int .i64 a) rfl
    have c1 := RT.out.kf.cellv 1 (v := .int .i64 b) rfl
    have c2 := RT.out.kf.cellv 2 (v := .slice A n c) rfl
    have d0 := RT.out.kg.cellv 0 (v := .int .i64 a) rfl
    have d1 := RT.out.kg.cellv 1 (v := .int .i64 b) rfl
    have d2 := RT.out.kg.cellv 2 (v := .slice (some ⟨g1, 0, none⟩) n cg) rfl
    have SM := Lib.hid (same_yes a b A (some ⟨g1, 0, none⟩) n c cg l X (RT.out.rf.more RT.out.bel.size) (Reads.of_own RT.out.own))
    go_wp2_with fail
    refine SM.out.mono ?_
    rintro e x ⟨rfl, hb⟩
    replace RT := Lib.hid (RT.out.next hb)
    clear hb c0 c1 c2 d0 d1 d2 SM
    have c0 := RT.out.kf.cellv 0 (v := .int .i64 a) rfl
    have c1 := RT.out.kf.cellv 1 (v := .int .i64 b) rfl
    have c2 := RT.out.kf.cellv 2 (v := .slice A n c) rfl
    have d0 := RT.out.kg.cellv 0 (v := .int .i64 a) rfl
    have d1 := RT.out.kg.cellv 1 (v := .int .i64 b) rfl
    have d2 := RT.out.kg.cellv 2 (v := .slice (some ⟨g1, 0, none⟩) n cg) rfl
    go_wp2
    clear c0 c1 c2 d0 d1 d2
    go_loopw [10] (fun i wr => ∃ (k : Nat) (l' : List UInt8), k ≤ n ∧ i = .int .i64 (k : Int) ∧ Hid (RtW w wr a b A n c l g1 g2 cg l'))
      (fun i _ => n - (intOf i).toNat)
    case atStart => exact ⟨0, l, Nat.zero_le _, rfl, RT⟩
    case round =>
      obtain ⟨k, l', hk, rfl, hRT⟩ := hrel
      clear RT
      have RT := hRT
      clear hRT
      have c0 := RT.out.kf.cellv 0 (v := .int .i64 a) rfl
      have c1 := RT.out.kf.cellv 1 (v := .int .i64 b) rfl
      have c2 := RT.out.kf.cellv 2 (v := .slice A n c) rfl
      have d0 := RT.out.kg.cellv 0 (v := .int .i64 a) rfl
      have d1 := RT.out.kg.cellv 1 (v := .int .i64 b) rfl
      have d2 := RT.out.kg.cellv 2 (v := .slice (some ⟨g1, 0, none⟩) n cg) rfl
      by_cases hlt : k < n
      · have hl' : l'.length = n := by have := RT.out.own.1; simpa using this
        obtain ⟨y, hy⟩ : ∃ y, l'[k]? = some y := ⟨_, List.getElem?_eq_getElem (by rw [hl']; exact hlt)⟩
        have hcell : wr.cell? ⟨g1, k, none⟩ = some (.int .u8 (y.toNat : Int)) := by
          rw [RT.out.own.cellAt k (by omega)]
          simp [bv, hy, u8v]
        have hfz := RT.out.own.frozenAt k
        have k0 : (0 : Int) ≤ (k : Int) := by omega
        have k1 : (k : Int) < (n : Int) := by omega
        have HX := Lib.hid (xor_one y)
        have HS := Lib.hid (RT.out.set k (y ^^^ 1))
        clear hy hl'
        go_wp2
        go_roundw
        case rel => exact ⟨k + 1, l'.set k (y ^^^ 1), by omega, by go_num, by rw [HX.out]; exact HS⟩
        case measure => simp [intOf]; omega
      · obtain rfl : k = n := by omega
        have FB : Hid (FBox w wr a b (.slice A k c)) := Lib.hid ⟨RT.out.kf, RT.out.bel⟩
        clear RT
        go_wp2_with fail
        refine (PD.out _).mono ?_
        rintro e x5 ⟨A5, c5, rfl, ho, hb⟩
        replace FB := Lib.hid (FB.out.next hb)
        have KF := Lib.hid (FB.out.kf.alloc (.cells #[.int .i64 a, .int .i64 b, .slice A5 k c5] 34))
        have B := Lib.hid (FB.out.bel.alloc FB.out.bel.size (.cells #[.int .i64 a, .int .i64 b, .slice A5 k c5] 34))
        have KG : Hid (Blk (x5.alloc (.cells #[.int .i64 a, .int .i64 b, .slice A5 k c5] 34)) x5.heap.size 34 (b3 a b (.slice A5 k c5))) := Lib.hid (Blk.new x5 34 (b3 a b (.slice A5 k c5)))
        have RG := Lib.hid (reads_alloc_more (Reads.of_own ho.out) (.cells #[.int .i64 a, .int .i64 b, .slice A5 k c5] 34))
        clear ho hb FB c0 c1 c2 d0 d1 d2
        go_upto_region 12 with fail
        generalize World.alloc _ _ = X at KF B KG RG ⊢
        generalize x5.heap.size = g5 at KG ⊢
        have c0 := KF.out.cellv 0 (v := .int .i64 a) rfl
        have c1 := KF.out.cellv 1 (v := .int .i64 b) rfl
        have c2 := KF.out.cellv 2 (v := .slice A k c) rfl
        have d0 := KG.out.cellv 0 (v := .int .i64 a) rfl
        have d1 := KG.out.cellv 1 (v := .int .i64 b) rfl
        have d2 := KG.out.cellv 2 (v := .slice A5 k c5) rfl
        have SM := Lib.hid (same_yes a b A A5 k c c5 l X ((RW.out _ B.out).more B.out.size) RG.out)
        go_wp2_with fail
        refine SM.out.mono ?_
        rintro e x6 ⟨rfl, hb⟩
        replace B := Lib.hid (B.out.trans (hb.mono B.out.size))
        clear hb c0 c1 c2 d0 d1 d2 SM KF KG RG
        go_wp2_with fail
        refine (PS.out _).mono ?_
        rintro e y ⟨A2, c2, rfl, r2, hb⟩
        replace B := Lib.hid (B.out.trans (hb.mono B.out.size))
        clear hb r2
        go_wp2
        go_ret
        exact ⟨rfl, B.out.alloc B.out.size _⟩

set_option maxHeartbeats 6400000 in
theorem rt_val_ok (a b : Int) (A : Option Addr) (n c : Nat) (l : List UInt8) (s : ByteArray) (w : World) (hr : Reads w w.heap.size 1 A n (bv l)) (hn : n ≤ 140737488351232) (hs : s.size ≤ 140737488351232) (hv : floorB a b l = true) (W H : Nat) (cells : List UInt8) (er : Int) (hp : parseF s.data.toList = (W, H, cells, er)) (he : er = 0) :
    Calls Try.prog 15 #[.agg #[.int .i64 a, .int .i64 b, .slice A n c], .string s] w fun e w' => e = .returned (.bool true) ∧ Below w.heap.size w w' := by
  subst he
  have PS := Lib.hid (fun x => parse_known hs hp x)
  have FB := Lib.hid (fbox w a b (.slice A n c))
  have V := Lib.hid (fun W (hb : Below w.heap.size w W) => validFloor_any a b A n c l W ((hr.below hb).more hb.size) hn)
  rw [hv] at V
  have DR := Lib.hid (fun x A c hr => draw_known hp A c x hr)
  have CK : Hid (∀ x A c, Reads x x.heap.size 1 A cells.length (bv cells) → Calls Try.prog 31 #[.agg #[.int .i64 (W : Int), .int .i64 (H : Int), .slice A cells.length c]] x fun e w' => e = .returned (.int .i64 0) ∧ Below x.heap.size x w') :=
    Lib.hid (fun x A c hr => by
      obtain ⟨h1, h2⟩ := draw_parse hp
      have := check_any (W : Int) (H : Int) A cells.length c cells x hr (by have := floorB_len h1; omega)
      rwa [if_pos h1] at this)
  generalize cells.length = m at *
  have hlen : l.length = n := by have := hr.1; simpa using this
  have hll := floorB_len hv
  obtain ⟨⟨ha, hb'⟩, hab, _⟩ := floorB_yes hv
  obtain ⟨hpd, hdl⟩ := parse_draw hv
  have DF : Hid (∀ W, Below w.heap.size w W → Calls Try.prog 52 #[.agg #[.int .i64 a, .int .i64 b, .slice A n c]] W fun e w' => e = .returned (.tuple #[.string ⟨(drawTo l a l.length).toArray⟩, .int .i64 0]) ∧ Below W.heap.size W w') :=
    Lib.hid (fun W hb => by
      have := draw_any a b A n c l W ((hr.below hb).more hb.size) hn
      rwa [show drawS a b l = (drawTo l a l.length, 0) from by unfold drawS; rw [if_pos hv]] at this)
  have hdle := drawTo_le l a l.length
  obtain ⟨D, hD⟩ : ∃ D : ByteArray, D = ⟨(drawTo l a l.length).toArray⟩ := ⟨_, rfl⟩
  have hDs : (D.size : Int) = (a + 1) * b := by rw [← hdl, hD]; rfl
  have hDl : D.data.toList = drawTo l a l.length := by rw [hD]
  have hD2 : D.size ≤ 200 := by
    have : D.size = (drawTo l a l.length).length := by rw [hD]; rfl
    omega
  have PD : Hid (∀ W, Calls Try.prog 33 #[.string D] W fun e w' => ∃ A' c', e = .returned (.tuple #[.agg #[.int .i64 a, .int .i64 b, .slice A' n c'], .int .i64 0]) ∧ Hid (w'.ownsRow W.heap.size 5 1 (.slice A' n c') n (bv l)) ∧ Below W.heap.size W w') :=
    Lib.hid (fun W => by
      have := parse_known (s := D) (W := a.toNat) (H := b.toNat) (cells := l) (er := 0) (by omega) (by rw [hDl]; exact hpd) W
      rwa [show ((a.toNat : Nat) : Int) = a from Int.toNat_of_nonneg (by omega), show ((b.toNat : Nat) : Int) = b from Int.toNat_of_nonneg (by omega), hlen] at this)
  rw [← hD] at DF
  have hne : ((D.size : Int) != (a + 1) * b) = false := by rw [hDs]; simp
  have p0 : 0 ≤ (a + 1) * b := by rw [← hDs]; omega
  have p1 : (a + 1) * b ≤ 200 := by rw [← hDs]; omega
  obtain ⟨a2, a8⟩ := ha
  obtain ⟨b2, b8⟩ := hb'
  have RW := Lib.hid (fun W (hb : Below w.heap.size w W) => hr.below hb)
  have n4 : 4 ≤ n := by omega
  have n64 : n ≤ 64 := by omega
  clear hv hr hp hs hlen hll hab hpd hdl hdle hD hDs hDl hD2
  go_enter Try.func15, Try.ntmps15
  go_wp2_with fail
  refine (falive_true _).mono ?_
  rintro e x ⟨rfl, hb⟩
  replace FB := Lib.hid (FB.out.next hb)
  clear hb
  have c0 := FB.out.kf.cellv 0 (v := .int .i64 a) rfl
  have c1 := FB.out.kf.cellv 1 (v := .int .i64 b) rfl
  have c2 := FB.out.kf.cellv 2 (v := .slice A n c) rfl
  go_wp2_with fail
  refine (V.out _ FB.out.bel).mono ?_
  rintro e x ⟨rfl, hb⟩
  replace FB := Lib.hid (FB.out.next hb)
  clear hb c0 c1 c2
  have c0 := FB.out.kf.cellv 0 (v := .int .i64 a) rfl
  have c1 := FB.out.kf.cellv 1 (v := .int .i64 b) rfl
  have c2 := FB.out.kf.cellv 2 (v := .slice A n c) rfl
  go_wp2_with fail
  refine (DF.out _ FB.out.bel).mono ?_
  rintro e x ⟨rfl, hb⟩
  replace FB := Lib.hid (FB.out.next hb)
  have HSX := Lib.hid FB.out.kf.lt
  clear hb c0 c1 c2
  go_wp2_with fail
  refine (PD.out _).mono ?_
  rintro e x3 ⟨A1, cg, rfl, ho, hb⟩
  obtain ⟨g1, rfl, _, _⟩ := own_head' ho.out (by omega)
  replace FB := Lib.hid (FB.out.next hb)
  have RT := Lib.hid (rtW_made FB.out (RW.out _ FB.out.bel) (own_more ho.out HSX.out))
  clear hb ho FB HSX
  go_upto_region 5 with fail
  generalize World.alloc _ _ = X at RT ⊢
  generalize x3.heap.size = g2 at RT ⊢
  have c0 := RT.out.kf.cellv 0 (v := .int .i64 a) rfl
  have c1 := RT.out.kf.cellv 1 (v := .int .i64 b) rfl
  have c2 := RT.out.kf.cellv 2 (v := .slice A n c) rfl
  have d0 := RT.out.kg.cellv 0 (v := .int .i64 a) rfl
  have d1 := RT.out.kg.cellv 1 (v := .int .i64 b) rfl
  have d2 := RT.out.kg.cellv 2 (v := .slice (some ⟨g1, 0, none⟩) n cg) rfl
  have SM := Lib.hid (same_yes a b A (some ⟨g1, 0, none⟩) n c cg l X (RT.out.rf.more RT.out.bel.size) (Reads.of_own RT.out.own))
  go_wp2_with fail
  refine SM.out.mono ?_
  rintro e x ⟨rfl, hb⟩
  replace RT := Lib.hid (RT.out.next hb)
  clear hb c0 c1 c2 d0 d1 d2 SM
  have c0 := RT.out.kf.cellv 0 (v := .int .i64 a) rfl
  have c1 := RT.out.kf.cellv 1 (v := .int .i64 b) rfl
  have c2 := RT.out.kf.cellv 2 (v := .slice A n c) rfl
  have d0 := RT.out.kg.cellv 0 (v := .int .i64 a) rfl
  have d1 := RT.out.kg.cellv 1 (v := .int .i64 b) rfl
  have d2 := RT.out.kg.cellv 2 (v := .slice (some ⟨g1, 0, none⟩) n cg) rfl
  go_wp2
  clear c0 c1 c2 d0 d1 d2
  go_loopw [10] (fun i wr => ∃ (k : Nat) (l' : List UInt8), k ≤ n ∧ i = .int .i64 (k : Int) ∧ Hid (RtW w wr a b A n c l g1 g2 cg l'))
    (fun i _ => n - (intOf i).toNat)
  case atStart => exact ⟨0, l, Nat.zero_le _, rfl, RT⟩
  case round =>
    obtain ⟨k, l', hk, rfl, hRT⟩ := hrel
    clear RT
    have RT := hRT
    clear hRT
    have c0 := RT.out.kf.cellv 0 (v := .int .i64 a) rfl
    have c1 := RT.out.kf.cellv 1 (v := .int .i64 b) rfl
    have c2 := RT.out.kf.cellv 2 (v := .slice A n c) rfl
    have d0 := RT.out.kg.cellv 0 (v := .int .i64 a) rfl
    have d1 := RT.out.kg.cellv 1 (v := .int .i64 b) rfl
    have d2 := RT.out.kg.cellv 2 (v := .slice (some ⟨g1, 0, none⟩) n cg) rfl
    by_cases hlt : k < n
    · have hl' : l'.length = n := by have := RT.out.own.1; simpa using this
      obtain ⟨y, hy⟩ : ∃ y, l'[k]? = some y := ⟨_, List.getElem?_eq_getElem (by rw [hl']; exact hlt)⟩
      have hcell : wr.cell? ⟨g1, k, none⟩ = some (.int .u8 (y.toNat : Int)) := by
        rw [RT.out.own.cellAt k (by omega)]
        simp [bv, hy, u8v]
      have hfz := RT.out.own.frozenAt k
      have k0 : (0 : Int) ≤ (k : Int) := by omega
      have k1 : (k : Int) < (n : Int) := by omega
      have HX := Lib.hid (xor_one y)
      have HS := Lib.hid (RT.out.set k (y ^^^ 1))
      clear hy hl'
      go_wp2
      go_roundw
      case rel => exact ⟨k + 1, l'.set k (y ^^^ 1), by omega, by go_num, by rw [HX.out]; exact HS⟩
      case measure => simp [intOf]; omega
    · obtain rfl : k = n := by omega
      have FB : Hid (FBox w wr a b (.slice A k c)) := Lib.hid ⟨RT.out.kf, RT.out.bel⟩
      clear RT
      go_wp2_with fail
      refine (PD.out _).mono ?_
      rintro e x5 ⟨A5, c5, rfl, ho, hb⟩
      replace FB := Lib.hid (FB.out.next hb)
      have KF := Lib.hid (FB.out.kf.alloc (.cells #[.int .i64 a, .int .i64 b, .slice A5 k c5] 34))
      have B := Lib.hid (FB.out.bel.alloc FB.out.bel.size (.cells #[.int .i64 a, .int .i64 b, .slice A5 k c5] 34))
      have KG : Hid (Blk (x5.alloc (.cells #[.int .i64 a, .int .i64 b, .slice A5 k c5] 34)) x5.heap.size 34 (b3 a b (.slice A5 k c5))) := Lib.hid (Blk.new x5 34 (b3 a b (.slice A5 k c5)))
      have RG := Lib.hid (reads_alloc_more (Reads.of_own ho.out) (.cells #[.int .i64 a, .int .i64 b, .slice A5 k c5] 34))
      clear ho hb FB c0 c1 c2 d0 d1 d2
      go_upto_region 12 with fail
      generalize World.alloc _ _ = X at KF B KG RG ⊢
      generalize x5.heap.size = g5 at KG ⊢
      have c0 := KF.out.cellv 0 (v := .int .i64 a) rfl
      have c1 := KF.out.cellv 1 (v := .int .i64 b) rfl
      have c2 := KF.out.cellv 2 (v := .slice A k c) rfl
      have d0 := KG.out.cellv 0 (v := .int .i64 a) rfl
      have d1 := KG.out.cellv 1 (v := .int .i64 b) rfl
      have d2 := KG.out.cellv 2 (v := .slice A5 k c5) rfl
      have SM := Lib.hid (same_yes a b A A5 k c c5 l X ((RW.out _ B.out).more B.out.size) RG.out)
      go_wp2_with fail
      refine SM.out.mono ?_
      rintro e x6 ⟨rfl, hb⟩
      replace B := Lib.hid (B.out.trans (hb.mono B.out.size))
      clear hb c0 c1 c2 d0 d1 d2 SM KF KG RG
      go_wp2_with fail
      refine (PS.out _).mono ?_
      rintro e y ⟨A2, cp, rfl, ho, hb⟩
      replace B := Lib.hid (B.out.trans (hb.mono B.out.size))
      have KX := Lib.hid (Blk.new y 34 (b3 (W : Int) (H : Int) (.slice A2 m cp)))
      have BX := Lib.hid (B.out.alloc B.out.size (.cells #[.int .i64 (W : Int), .int .i64 (H : Int), .slice A2 m cp] 34))
      have RX := Lib.hid (reads_alloc_more (Reads.of_own ho.out) (.cells #[.int .i64 (W : Int), .int .i64 (H : Int), .slice A2 m cp] 34))
      clear hb ho B
      go_wp2_with fail
      refine (DR.out _ _ _ RX.out).mono ?_
      rintro e z ⟨rfl, hb⟩
      replace RX := Lib.hid ((RX.out.below hb).more hb.size)
      replace BX := Lib.hid (BX.out.trans (hb.mono BX.out.size))
      have kf := KX.out.below hb KX.out.lt
      have e0 := kf.cellv 0 (v := .int .i64 (W : Int)) rfl
      have e1 := kf.cellv 1 (v := .int .i64 (H : Int)) rfl
      have e2 := kf.cellv 2 (v := .slice A2 m cp) rfl
      clear kf hb KX
      go_wp2_with fail
      refine (CK.out _ _ _ RX.out).mono ?_
      rintro e z2 ⟨rfl, hb⟩
      replace BX := Lib.hid (BX.out.trans (hb.mono BX.out.size))
      clear hb e0 e1 e2
      go_wp2
      go_ret
      exact ⟨rfl, BX.out⟩

theorem floorRoundTrip.floorRoundTrip_walk (a b : Int) (A : Option Addr) (n c : Nat) (l : List UInt8) (s : ByteArray) (w : World) (hr : Reads w w.heap.size 1 A n (bv l)) (hnc : n ≤ c) (hc : c ≤ 140737488351232) (hs : s.size ≤ maxLen) (hs2 : s.data.toList.length ≤ reachBytes) :
    Calls Try.prog 15 #[.agg #[.int .i64 a, .int .i64 b, .slice A n c], .string s] w fun e w' => e = .returned (.bool true) ∧ Below w.heap.size w w' := by
  have hs3 : s.size ≤ 140737488351232 := by
    have : s.data.toList.length = s.size := Array.length_toList
    unfold reachBytes at hs2
    omega
  obtain ⟨W, H, cells, er, hp⟩ : ∃ W H cells er, parseF s.data.toList = (W, H, cells, er) := ⟨_, _, _, _, rfl⟩
  have he := parse_err hp
  cases hv : floorB a b l
  · rcases he with h | h
    · exact rt_inv_ok a b A n c l s w hr (by omega) hs3 hv W H cells er hp h
    · exact rt_inv_bad a b A n c l s w hr (by omega) hs3 hv W H cells er hp h
  · rcases he with h | h
    · exact rt_val_ok a b A n c l s w hr (by omega) hs3 hv W H cells er hp h
    · exact rt_val_bad a b A n c l s w hr (by omega) hs3 hv W H cells er hp h
end Go.Proofs.Ythehkapaipfoaaa
