/-
  DRAW: the contract of floor's Draw.
-/
import Derived.Test.YtcbghchciplfcaaOwned
import Derived.IntWalk
namespace Go.Proofs.Ytcbghchciplfcaa
set_option linter.unusedVariables false
set_option linter.unusedSimpArgs false
set_option maxRecDepth 100000
open Go.RowKit

theorem u8_info' : (Try.prog.info? 5).map (fun i => (i.zero, i.size, i.bytes)) = some (some (.int .u8 0), 1, 1) := by kernel_rfl
/-- the text of the first k cells. -/
def drawTo (l : List UInt8) (a : Int) : Nat → List UInt8
  | 0 => []
  | k + 1 => drawTo l a k ++ (match l[k]? with | some c => markB c :: (if (k : Int) % a = a - 1 then [10] else []) | none => [])
theorem drawTo_le (l : List UInt8) (a : Int) : ∀ k, (drawTo l a k).length ≤ 2 * k
  | 0 => by simp [drawTo]
  | k + 1 => by
    have := drawTo_le l a k
    unfold drawTo
    split
    · split <;> simp <;> omega
    · simp; omega
theorem drawTo_lf {l : List UInt8} {a : Int} {k : Nat} {c : UInt8} (hc : l[k]? = some c) (h : (k : Int) % a = a - 1) : drawTo l a (k + 1) = (drawTo l a k ++ [markB c]) ++ [10] := by
  conv => lhs; unfold drawTo
  rw [hc]; simp [h]
theorem drawTo_no {l : List UInt8} {a : Int} {k : Nat} {c : UInt8} (hc : l[k]? = some c) (h : (k : Int) % a ≠ a - 1) : drawTo l a (k + 1) = drawTo l a k ++ [markB c] := by
  conv => lhs; unfold drawTo
  rw [hc]; simp [h]
def drawS (a b : Int) (l : List UInt8) : List UInt8 × Int := if floorB a b l then (drawTo l a l.length, 0) else ([], 50)

theorem draw_bad (a b : Int) (A : Option Addr) (n c : Nat) (l : List UInt8) (w : World) (hr : Reads w w.heap.size 1 A n (bv l)) (hn : n ≤ 140737488351232) (h : floorB a b l = false) :
    Calls Try.prog 58 #[.agg #[.int .i64 a, .int .i64 b, .slice A n c]] w fun e w' => e = .returned (.tuple #[.string ⟨#[]⟩, .int .i64 50]) ∧ Below w.heap.size w w' := by
  have hB : Below w.heap.size w (w.alloc (.cells #[.int .i64 a, .int .i64 b, .slice A n c] 30)) := (Below.refl _ _).alloc (Nat.le_refl _) _
  have G := Lib.hid (board_call a b A n c l w _ h hr hn _ hB)
  simp only [boardE] at G
  have H := Lib.hid hB
  clear h hr hB
  go_enter Try.func58, Try.ntmps58
  go_wp2_with fail
  refine G.out.mono ?_
  rintro e w1 ⟨rfl, hb1⟩
  go_wp2
  go_ret2
  exact ⟨rfl, (H.out.trans (hb1.mono (by simp))).alloc (by have := hb1.size; simp at this; omega) _⟩

/-- what stands behind the region that makes the text's row. -/
structure DrawW (g : Nat) (W wx : World) (a b : Int) (v u : Value) (xs : List UInt8) : Prop where
  own : wx.ownsRow (g + 1) 5 1 u xs.length (bv xs)
  bel : Below (g + 1) W wx

set_option maxHeartbeats 3200000 in
theorem draw_ok (a b : Int) (A : Option Addr) (n c : Nat) (l : List UInt8) (w : World) (hr : Reads w w.heap.size 1 A n (bv l)) (h : floorB a b l = true) :
    Calls Try.prog 58 #[.agg #[.int .i64 a, .int .i64 b, .slice A n c]] w fun e w' => e = .returned (.tuple #[.string ⟨(drawTo l a n).toArray⟩, .int .i64 0]) ∧ Below w.heap.size w w' := by
  obtain ⟨i0, hi, hz0, hz1, hz2⟩ := info_parts u8_info'
  obtain ⟨⟨ha, hb⟩, hl, hall⟩ := floorB_yes h
  have hll := floorB_len h
  have hlen : l.length = n := by have := hr.1; simpa using this
  have hB : Below w.heap.size w (w.alloc (.cells #[.int .i64 a, .int .i64 b, .slice A n c] 30)) := (Below.refl _ _).alloc (Nat.le_refl _) _
  have G := Lib.hid (board_call a b A n c l w _ h hr (by omega) _ hB)
  simp only [boardE] at G
  have H := Lib.hid hB
  have S := Lib.hid (fun W => size_any a b W ha hb)
  have M := Lib.hid (fun (x : UInt8) (hx : cellB x = true) W => markOf_any x W hx)
  have LC := Lib.hid (fun (k : Nat) (hk : k ≤ 1000) W => locate_any a b (k : Int) W ha (by omega))
  obtain ⟨C, hC⟩ := Int.eq_ofNat_of_zero_le (show 0 ≤ a * b + b by omega)
  have hmk := fun W : World => run_make (P := Try.prog) W 28 5 i0 (.int .u8 0) Try.underlying28 hi hz0 .i64 .i64 0 (a * b + b) (Int.le_refl _) (by omega) (by rw [hz2]; omega) (by omega)
  rw [hz1, hC] at hmk
  simp only [Int.toNat_zero, Int.toNat_natCast] at hmk
  have hCle : C ≤ 100 := by omega
  have hwr : IntKind.i64.wrap (C : Int) = (C : Int) := IntWalk.i64_in _ (by omega)
  have HR := Lib.hid hr; have HL := Lib.hid hlen; have HA := Lib.hid hall
  have hs1 : 0 ≤ a * b := by omega
  have hs2 : a * b ≤ 64 := by omega
  have ha1 := ha.1
  have ha2 := ha.2
  have hb1' := hb.1
  have hb2' := hb.2
  have hn64 : n ≤ 64 := by omega
  clear h hr hB hl hall hll hlen ha hb
  go_enter Try.func58, Try.ntmps58
  go_wp2_with fail
  refine G.out.mono ?_
  rintro e w1 ⟨rfl, hb1⟩
  have hbw := H.out.trans (hb1.mono (by simp))
  have hbel := hbw.alloc hbw.size (.cells #[.int .i64 a, .int .i64 b, .slice A n c] 123)
  have hblk := Blk.new w1 123 (b3 a b (.slice A n c))
  have hszw := hbw.size
  have HBW := Lib.hid hbel; have HBK := Lib.hid hblk
  clear hb1 hbw hbel hblk
  go_upto_region 4 with fail
  have hW : ∀ W, W = w1.alloc (.cells #[.int .i64 a, .int .i64 b, .slice A n c] 123) → Hid (Below w.heap.size w W) ∧ Hid (Blk W w1.heap.size 123 (b3 a b (.slice A n c))) ∧ W.heap.size = w1.heap.size + 1 := fun W e => by subst e; exact ⟨HBW, HBK, by simp⟩
  generalize hgW : w1.alloc (.cells #[.int .i64 a, .int .i64 b, .slice A n c] 123) = W at ⊢
  clear HBW HBK
  obtain ⟨HBW, HBK, hWs⟩ := hW W hgW.symm
  generalize w1.heap.size = g at *
  clear hgW hW
  have HWS := Lib.hid hWs
  clear hWs
  have c0 := HBK.out.cellv 0 (v := .int .i64 a) rfl
  have c1 := HBK.out.cellv 1 (v := .int .i64 b) rfl
  have hd0 : Below W.heap.size W W.drew := bk_drew (Below.refl _ _)
  go_cut [6] (fun s wx => Hid (wx.ownsRow (g + 1) 5 1 s ([] : List UInt8).length (bv [])) ∧ Hid (Below (g + 1) W wx))
  case first =>
    go_region_held3 (fun w' => Below W.heap.size W w' ∧ w'.cell? ⟨g, 0, none⟩ = some (.int .i64 a) ∧ w'.cell? ⟨g, 1, none⟩ = some (.int .i64 b))
      (first | exact ⟨hd0, c0, c1⟩ | exact ⟨hby, e0, e1⟩ | exact ⟨bk_alloc hby _, (World.cell?_alloc_lt _ _ _ (Nat.lt_of_lt_of_le HBK.out.lt hby.size)).trans e0, (World.cell?_alloc_lt _ _ _ (Nat.lt_of_lt_of_le HBK.out.lt hby.size)).trans e1⟩)
      (first | (go_at_call 105
                refine (S.out _).mono ?_
                rintro e w2 ⟨rfl, hb2⟩
                have e0 := (hb2.cell (p := ⟨g, 0, none⟩) (by exact HBK.out.lt)).trans c0
                have e1 := (hb2.cell (p := ⟨g, 1, none⟩) (by exact HBK.out.lt)).trans c1
                have hby : Below W.heap.size W w2 := by exact hd0.trans hb2))
    all_goals
      go_wp2_with fail
      go_split_ands
      go_meet
      exact ⟨Lib.hid (World.ownsRow_made _ _ C (by have := hby.size; rw [HWS.out] at this; exact this) (by unfold maxLen; omega) (by rw [Nat.mul_one]; exact size_madeCells _ _)), Lib.hid (by have := bk_alloc hby (.cells (madeCells #[Value.int .u8 0] C) 5); rw [HWS.out] at this; exact this)⟩
  case rest =>
    obtain ⟨how, hbx⟩ := hcut
    clear hmk hwr hC c0 c1 hd0
    have HGW : Hid (w.heap.size ≤ g) := Lib.hid (by assumption)
    have hk0 := HBK.out.below hbx.out (Nat.lt_succ_self g)
    have d2 := hk0.cellv 2 (v := .slice A n c) rfl
    go_wp2
    clear d2 hk0
    go_loopw [6, 30] (fun u i wr => ∃ k : Nat, k ≤ n ∧ i = .int .i64 (k : Int) ∧ Hid (wr.ownsRow (g + 1) 5 1 u (drawTo l a k).length (bv (drawTo l a k))) ∧ Hid (Below (g + 1) W wr))
      (fun _ i _ => n - (intOf i).toNat)
    case atStart => exact ⟨0, Nat.zero_le _, rfl, how, hbx⟩
    case round =>
      obtain ⟨k, hk, rfl, howr, hnx⟩ := hrel
      clear how hbx
      have hbw : Below w.heap.size w wr := HBW.out.trans (hnx.out.mono (by have := HGW.out; omega))
      have hsz := hnx.out.size
      rw [HWS.out] at hsz
      have hle := drawTo_le l a k
      by_cases hlt : k < n
      · obtain ⟨ad, x, rfl, had, hx, hcx⟩ := cells_at (HR.out.below hbw) hlt
        have hcb : cellB x = true := List.all_eq_true.1 HA.out x (List.mem_of_getElem? hx)
        have HX := Lib.hid hx; have HCB := Lib.hid hcb; have HB := Lib.hid hbw
        clear hx hcb had hbw
        go_wp2_with fail
        refine (M.out x HCB.out _).mono ?_
        rintro e w2 ⟨rfl, rfl⟩
        go_wp2_with (at_builtin; refine wpList_append_any _ rfl _ _ 28 rfl (g + 1) 5 i0 (.int .u8 0) 1 1 Try.underlying28 hi hz0 hz1 hz2 rfl (by decide) _ _ _ rfl (howr.out.alloc _) (wr.heap.size + 1) _ 1 1 _ rfl (reads_new1 _ _ rfl) (bv_oneCell [_]) (by unfold maxLen; omega) (by omega) (by simp; omega) ?_; intro v1 w3 hown1 hg1 _; have hx1 : Below (g + 1) W w3 := (hnx.out.alloc (by rw [HWS.out] at *; exact hsz) _).grown hg1 (by simp; omega) (fun y hy => (howr.out.lt y hy).1); have f0 := (HBK.out.below hx1 (Nat.lt_succ_self g)).cellv 0 (v := .int .i64 a) rfl; have f1 := (HBK.out.below hx1 (Nat.lt_succ_self g)).cellv 1 (v := .int .i64 b) rfl; have HX1 := Lib.hid hx1; have HO1 := Lib.hid hown1; clear hx1 hown1 hg1)
        clear f0 f1
        refine (LC.out k (by omega) _).mono ?_
        rintro e w4 ⟨rfl, hb4⟩
        have hx4 : Below (g + 1) W w4 := HX1.out.trans (hb4.mono (by have := HX1.out.size; rw [HWS.out] at this; exact this))
        have f0 := (HBK.out.below hx4 (Nat.lt_succ_self g)).cellv 0 (v := .int .i64 a) rfl
        have ho4 : w4.ownsRow (g + 1) 5 1 v1 ((drawTo l a k).length + 1) (bv (drawTo l a k) ++ [u8v (markB x)]) := own_below HO1.out hb4 (fun y hy => (HO1.out.lt y hy).2)
        have HX4 := Lib.hid hx4; have HO4 := Lib.hid ho4
        have hs4 := hx4.size
        rw [HWS.out] at hs4
        clear hx4 ho4 hb4 hcx
        by_cases hm : (k : Int) % a = a - 1
        · have hp := drawTo_lf HX.out hm
          have hq : ((k : Int) % a == a - 1) = true := by simpa using hm
          have HP := Lib.hid hp
          clear hp hm
          go_wp2_with (at_builtin; refine wpList_append_any _ rfl _ _ 28 rfl (g + 1) 5 i0 (.int .u8 0) 1 1 Try.underlying28 hi hz0 hz1 hz2 rfl (by decide) _ _ _ rfl (HO4.out.alloc _) (w4.heap.size + 1) _ 1 1 _ rfl (reads_new1 (u := u8v 10) _ _ rfl) (bv_oneCell [_]) (by unfold maxLen; omega) (by omega) (by simp; omega) ?_; intro v5 w5 hown5 hg5 _)
          have R : w5.ownsRow (g + 1) 5 1 v5 (drawTo l a (k + 1)).length (bv (drawTo l a (k + 1))) := by
            rw [HP.out, bv_append, bv_append, List.length_append, List.length_append]
            exact hown5
          have hnx5 : Below (g + 1) W w5 := (HX4.out.alloc hs4 _).grown hg5 (by simp; omega) (fun y hy => (HO4.out.lt y hy).1)
          go_roundw
          case rel => exact ⟨k + 1, by omega, by go_num, Lib.hid R, Lib.hid hnx5⟩
          case measure => simp [intOf]; omega
        · have hp := drawTo_no HX.out hm
          have hq : ((k : Int) % a == a - 1) = false := by simpa using hm
          have HP := Lib.hid hp
          clear hp hm
          go_wp2
          go_roundw
          case rel => exact ⟨k + 1, by omega, by go_num, Lib.hid (by rw [HP.out, bv_append, List.length_append]; exact HO4.out), HX4⟩
          case measure => simp [intOf]; omega
      · obtain rfl : k = n := by omega
        obtain ⟨A1, c1, rfl, h1, h2, _⟩ := own_form howr.out
        have q1 := run_str (P := Try.prog) 28 5 9 Try.underlying28 Try.underlying5 Try.underlying9 (c := c1) (Reads.of_own howr.out)
        have HB := Lib.hid hbw
        clear hbw
        go_wp2
        go_ret2
        exact ⟨rfl, HB.out⟩

/-- Draw of whatever floor. -/
theorem draw_any (a b : Int) (A : Option Addr) (n c : Nat) (l : List UInt8) (w : World) (hr : Reads w w.heap.size 1 A n (bv l)) (hn : n ≤ 140737488351232) :
    Calls Try.prog 58 #[.agg #[.int .i64 a, .int .i64 b, .slice A n c]] w fun e w' => e = .returned (.tuple #[.string ⟨(drawS a b l).1.toArray⟩, .int .i64 (drawS a b l).2]) ∧ Below w.heap.size w w' := by
  have hlen : l.length = n := by have := hr.1; simpa using this
  cases h : floorB a b l
  · rw [show drawS a b l = ([], 50) from by unfold drawS; rw [h]; rfl]
    exact draw_bad a b A n c l w hr hn h
  · rw [show drawS a b l = (drawTo l a n, 0) from by unfold drawS; rw [h, hlen]; rfl]
    exact draw_ok a b A n c l w hr h
end Go.Proofs.Ytcbghchciplfcaa
