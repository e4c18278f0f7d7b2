/-
  BOARDOF: the contract of floor's boardOf.
-/
import Derived.Test.YtcbghchciplfcaaBoard
import Derived.Deep.DeepCutAuto
import Derived.Deep.RegionHeld3
import Derived.Deep.AppendLies
import Derived.Deep.RegionLaw
namespace Go.Proofs.Ytcbghchciplfcaa
set_option linter.unusedVariables false
set_option linter.unusedSimpArgs false
set_option maxRecDepth 100000
open Go.RowKit

def b3 (a b : Int) (v : Value) : Array Value := #[.int .i64 a, .int .i64 b, v]
theorem b3_info (a b : Int) (v : Value) : (Try.prog.info? 123).map (·.size) = some (b3 a b v).size := by
  show _ = some 3
  kernel_rfl
theorem b3_three {w : World} {g : Nat} {a b c d : Int} {v u : Value} (h : Blk w g 123 (b3 a b v)) : Blk (((w.setCell ⟨g, 0, none⟩ (.int .i64 c)).setCell ⟨g, 1, none⟩ (.int .i64 d)).setCell ⟨g, 2, none⟩ u) g 123 (b3 c d u) :=
  ((h.set_ 0 _).set_ 1 _).set_ 2 _
theorem below_three {B g : Nat} {w w' : World} (h : Below B w w') (hg : B ≤ g) (c d u : Value) : Below B w (((w'.setCell ⟨g, 0, none⟩ c).setCell ⟨g, 1, none⟩ d).setCell ⟨g, 2, none⟩ u) := ((h.setCell hg _).setCell hg _).setCell hg _
def floorB (a b : Int) (l : List UInt8) : Bool := gridB a b && decide ((l.length : Int) = a * b) && l.all cellB

/-- the three blocks that boardOf lays. -/
structure Laid3 (w W : World) (a b : Int) (v : Value) : Prop where
  z : Blk W (w.heap.size + 1) 123 (b3 0 0 (.slice none 0 0))
  b : Blk W (w.heap.size + 1 + 1) 123 (b3 a b v)
  bel : Below w.heap.size w W
theorem laid3 (w : World) (a b : Int) (v : Value) : Laid3 w (((w.alloc (.cells #[.int .i64 a, .int .i64 b, v] 30)).alloc (.cells #[.int .i64 0, .int .i64 0, .slice none 0 0] 123)).alloc (.cells #[.int .i64 a, .int .i64 b, v] 123)) a b v := by
  have h1 := (Blk.new (w.alloc (.cells #[.int .i64 a, .int .i64 b, v] 30)) 123 (b3 0 0 (.slice none 0 0))).alloc (.cells #[.int .i64 a, .int .i64 b, v] 123)
  have h2 := Blk.new ((w.alloc (.cells #[.int .i64 a, .int .i64 b, v] 30)).alloc (.cells #[.int .i64 0, .int .i64 0, .slice none 0 0] 123)) 123 (b3 a b v)
  refine ⟨?_, ?_, ?_⟩
  · simpa [b3] using h1
  · simpa [b3] using h2
  · exact (((Below.refl _ _).alloc (Nat.le_refl _) _).alloc (by simp) _).alloc (by simp; omega) _
theorem Laid3.next {w W W' : World} {a b : Int} {v : Value} (h : Laid3 w W a b v) (hb : Below W.heap.size W W') : Laid3 w W' a b v :=
  ⟨h.z.below hb h.z.lt, h.b.below hb h.b.lt, h.bel.trans (hb.mono h.bel.size)⟩

set_option maxHeartbeats 1600000 in
theorem boardOf_bad (a b : Int) (A : Option Addr) (n c : Nat) (w : World) (h : gridB a b = false) :
    Calls Try.prog 94 #[.agg #[.int .i64 a, .int .i64 b, .slice A n c]] w fun e w' => e = .returned (.tuple #[.agg #[.int .i64 0, .int .i64 0, .slice none 0 0], .int .i64 50]) ∧ Below w.heap.size w w' := by
  have V := Lib.hid (fun W => valid_any a b W)
  rw [h] at V
  clear h
  have L := Lib.hid (laid3 w a b (.slice A n c))
  go_enter Try.func94, Try.ntmps94
  go_upto_region 2 with fail
  generalize ((w.alloc _).alloc _).alloc _ = W at L ⊢
  have c0 := L.out.b.cellv 0 (v := .int .i64 a) rfl
  have c1 := L.out.b.cellv 1 (v := .int .i64 b) rfl
  have c2 := L.out.b.cellv 2 (v := .slice A n c) rfl
  go_cut [27] (fun s wx => s = .bool true ∧ Hid (Laid3 w wx a b (.slice A n c)))
  case first =>
    refine wp_region_any (by kernel_rfl) ?_
    change wpAny _ _ _ _ _ _ _ (World.drew _)
    refine wpAny_take (i := 0) (v := .pointer (some ⟨w.heap.size + 1 + 1, 0, none⟩)) rfl (by kernel_rfl) (by kernel_rfl) (by kernel_rfl) (fun _ _ _ h => h) (Or.inl ⟨by rfl, fun w => by go_simp⟩) ?_
    simp only [Act.put, List.getElem_toArray, List.getElem_cons_zero, List.getElem_cons_succ, List.setIfInBounds_toArray, List.set_cons_zero, List.set_cons_succ]
    refine wpAny_ready (rs := [1]) (by kernel_rfl) (by simp) ?_
    refine AllReady.cons rfl (fun K hK => ?_) AllReady.nil
    go_simp
    refine hK _ _ ?_; clear hK K
    refine wpAny_ready (rs := [2]) (by kernel_rfl) (by simp) ?_
    refine AllReady.cons rfl (fun K hK => ?_) AllReady.nil
    go_simp
    go_wp2_with (go_at_call 127; refine (V.out _).mono ?_; rintro e w1 ⟨rfl, hb1⟩)
    refine wpAny_take (i := 3) (v := .bool true) rfl (by kernel_rfl) (by kernel_rfl) (by kernel_rfl) (fun _ _ _ h => h) (Or.inl ⟨by rfl, fun w => by go_simp⟩) ?_
    simp only [Act.put, List.getElem_toArray, List.getElem_cons_zero, List.getElem_cons_succ, List.setIfInBounds_toArray, List.set_cons_zero, List.set_cons_succ]
    refine wpAny_take (i := 4) (v := .bool true) rfl (by kernel_rfl) (by kernel_rfl) (by kernel_rfl) (fun _ _ _ h => h) (Or.inl ⟨by rfl, fun w => by go_simp⟩) ?_
    simp only [Act.put, List.getElem_toArray, List.getElem_cons_zero, List.getElem_cons_succ, List.setIfInBounds_toArray, List.set_cons_zero, List.set_cons_succ]
    refine wpAny_take (i := 5) (v := undef) rfl (by kernel_rfl) (by kernel_rfl) (by kernel_rfl) (fun _ _ _ h => h) (Or.inr ⟨by kernel_rfl, rfl⟩) ?_
    simp only [Act.put, List.getElem_toArray, List.getElem_cons_zero, List.getElem_cons_succ, List.setIfInBounds_toArray, List.set_cons_zero, List.set_cons_succ]
    refine wpAny_take (i := 6) (v := undef) rfl (by kernel_rfl) (by kernel_rfl) (by kernel_rfl) (fun _ _ _ h => h) (Or.inr ⟨by kernel_rfl, rfl⟩) ?_
    simp only [Act.put, List.getElem_toArray, List.getElem_cons_zero, List.getElem_cons_succ, List.setIfInBounds_toArray, List.set_cons_zero, List.set_cons_succ]
    refine wpAny_take (i := 7) (v := undef) rfl (by kernel_rfl) (by kernel_rfl) (by kernel_rfl) (fun _ _ _ h => h) (Or.inr ⟨by kernel_rfl, rfl⟩) ?_
    simp only [Act.put, List.getElem_toArray, List.getElem_cons_zero, List.getElem_cons_succ, List.setIfInBounds_toArray, List.set_cons_zero, List.set_cons_succ]
    refine wpAny_take (i := 8) (v := undef) rfl (by kernel_rfl) (by kernel_rfl) (by kernel_rfl) (fun _ _ _ h => h) (Or.inr ⟨by kernel_rfl, rfl⟩) ?_
    simp only [Act.put, List.getElem_toArray, List.getElem_cons_zero, List.getElem_cons_succ, List.setIfInBounds_toArray, List.set_cons_zero, List.set_cons_succ]
    refine wpAny_take (i := 9) (v := undef) rfl (by kernel_rfl) (by kernel_rfl) (by kernel_rfl) (fun _ _ _ h => h) (Or.inr ⟨by kernel_rfl, rfl⟩) ?_
    simp only [Act.put, List.getElem_toArray, List.getElem_cons_zero, List.getElem_cons_succ, List.setIfInBounds_toArray, List.set_cons_zero, List.set_cons_succ]
    refine wpAny_take (i := 10) (v := undef) rfl (by kernel_rfl) (by kernel_rfl) (by kernel_rfl) (fun _ _ _ h => h) (Or.inr ⟨by kernel_rfl, rfl⟩) ?_
    simp only [Act.put, List.getElem_toArray, List.getElem_cons_zero, List.getElem_cons_succ, List.setIfInBounds_toArray, List.set_cons_zero, List.set_cons_succ]
    refine wpAny_take (i := 11) (v := undef) rfl (by kernel_rfl) (by kernel_rfl) (by kernel_rfl) (fun _ _ _ h => h) (Or.inr ⟨by kernel_rfl, rfl⟩) ?_
    simp only [Act.put, List.getElem_toArray, List.getElem_cons_zero, List.getElem_cons_succ, List.setIfInBounds_toArray, List.set_cons_zero, List.set_cons_succ]
    refine wpAny_take (i := 12) (v := .bool true) rfl (by kernel_rfl) (by kernel_rfl) (by kernel_rfl) (fun _ _ _ h => h) (Or.inl ⟨by rfl, fun w => by go_simp⟩) ?_
    simp only [Act.put, List.getElem_toArray, List.getElem_cons_zero, List.getElem_cons_succ, List.setIfInBounds_toArray, List.set_cons_zero, List.set_cons_succ]
    refine wpAny_done (by kernel_rfl) ?_ _
    go_wp2_with fail
    go_split_ands
    go_meet
    exact ⟨rfl, Lib.hid (L.out.next (((Below.refl _ _).drew).trans hb1))⟩
  case rest =>
    obtain ⟨rfl, hl⟩ := hcut
    clear L c0 c1 c2
    have f0 := hl.out.z.frozen 0
    have f1 := hl.out.z.frozen 1
    have f2 := hl.out.z.frozen 2
    have c0 := hl.out.z.cellv 0 (v := .int .i64 0) rfl
    have c1 := hl.out.z.cellv 1 (v := .int .i64 0) rfl
    have c2 := hl.out.z.cellv 2 (v := .slice none 0 0) rfl
    go_wp2
    exact bodyPost_ret (results_row_tmp rfl _ _ (w.heap.size + 1) 123 (b3 0 0 (.slice none 0 0)) (0, 0) _ rfl (b3_three hl.out.z) Try.underlying123 rfl (b3_info _ _ _)) rfl ⟨rfl, below_three hl.out.bel (Nat.le_succ _) _ _ _⟩

theorem cells_at {w : World} {B n k : Nat} {A : Option Addr} {l : List UInt8} (hr : Reads w B 1 A n (bv l)) (hk : k < n) : ∃ ad x, A = some ad ∧ ad.block < B ∧ l[k]? = some x ∧ w.cell? (ad.add k) = some (.int .u8 (x.toNat : Int)) := by
  obtain ⟨ad, u, e, hb, hu, hc⟩ := hr.at_ hk
  obtain ⟨x, hx, rfl⟩ := bv_at hu
  exact ⟨ad, x, e, hb, hx, hc⟩
theorem allc_take {l : List UInt8} {f : UInt8 → Bool} {k : Nat} {p : UInt8} (h : (l.take k).all f = true) (hp : l[k]? = some p) (hf : f p = true) : (l.take (k + 1)).all f = true := by
  rw [List.take_add_one, hp]
  simp only [Option.toList_some, List.all_append, h, List.all_cons, hf, List.all_nil, Bool.and_self]
theorem allc_not {l : List UInt8} {f : UInt8 → Bool} {k : Nat} {p : UInt8} (hp : l[k]? = some p) (hf : f p = false) : l.all f = false := by
  have hm := List.mem_of_getElem? hp
  cases h : l.all f
  · rfl
  · rw [List.all_eq_true] at h
    have := h p hm
    rw [hf] at this
    cases this
/-- what boardOf comes to. -/
def boardE (a b : Int) (v : Value) (t : Bool) : Value := match t with
  | true => .tuple #[.agg #[.int .i64 a, .int .i64 b, v], .int .i64 0]
  | false => .tuple #[.agg #[.int .i64 0, .int .i64 0, .slice none 0 0], .int .i64 50]

set_option maxHeartbeats 1600000 in
theorem boardOf_fit (a b : Int) (A : Option Addr) (n c : Nat) (l : List UInt8) (t : Bool) (w : World) (ha : 2 ≤ a ∧ a ≤ 8) (hb : 2 ≤ b ∧ b ≤ 8) (hr : Reads w w.heap.size 1 A n (bv l)) (hn : n ≤ 140737488351232) (ht : ((n : Int) != a * b) = !t) :
    Calls Try.prog 94 #[.agg #[.int .i64 a, .int .i64 b, .slice A n c]] w fun e w' => e = .returned (boardE a b (.slice A n c) (t && l.all cellB)) ∧ Below w.heap.size w w' := by
  have V := Lib.hid (fun W => valid_any a b W)
  rw [show gridB a b = true from (gridB_iff _ _).2 ⟨ha, hb⟩] at V
  have S := Lib.hid (fun W => size_any a b W ha hb)
  have L := Lib.hid (laid3 w a b (.slice A n c))
  have hlen : l.length = n := by have := hr.1; simpa using this
  have HR := Lib.hid hr; have HL := Lib.hid hlen
  have C := Lib.hid (fun (x : UInt8) (t : Bool) (h : cellB x = t) W => h ▸ isCell_any x W)
  clear hr hlen
  go_enter Try.func94, Try.ntmps94
  go_upto_region 2 with fail
  generalize ((w.alloc _).alloc _).alloc _ = W at L ⊢
  have c0 := L.out.b.cellv 0 (v := .int .i64 a) rfl
  have c1 := L.out.b.cellv 1 (v := .int .i64 b) rfl
  have c2 := L.out.b.cellv 2 (v := .slice A n c) rfl
  go_cut [27] (fun s wx => s = .bool (!t) ∧ Hid (Laid3 w wx a b (.slice A n c)))
  case first =>
    go_region_held3 (fun w' => Below W.heap.size W w' ∧ w'.cell? ⟨w.heap.size + 1 + 1, 0, none⟩ = some (.int .i64 a) ∧ w'.cell? ⟨w.heap.size + 1 + 1, 1, none⟩ = some (.int .i64 b) ∧ w'.cell? ⟨w.heap.size + 1 + 1, 2, none⟩ = some (.slice A n c))
      (first | exact ⟨Below.drew (Below.refl _ _), c0, c1, c2⟩ | exact ⟨hbx, d0, d1, d2⟩ | exact ⟨hby, e0, e1, e2⟩)
      (first | (go_at_call 127
                refine (V.out _).mono ?_
                rintro e w1 ⟨rfl, hb1⟩
                have d0 := (hb1.cell (p := ⟨w.heap.size + 1 + 1, 0, none⟩) (by exact L.out.b.lt)).trans c0
                have d1 := (hb1.cell (p := ⟨w.heap.size + 1 + 1, 1, none⟩) (by exact L.out.b.lt)).trans c1
                have d2 := (hb1.cell (p := ⟨w.heap.size + 1 + 1, 2, none⟩) (by exact L.out.b.lt)).trans c2
                have hbx : Below W.heap.size W w1 := by exact (Below.drew (Below.refl _ _)).trans hb1)
             | (go_at_call 105
                refine (S.out _).mono ?_
                rintro e w2 ⟨rfl, hb2⟩
                have e0 := (hb2.cell (p := ⟨w.heap.size + 1 + 1, 0, none⟩) (by exact Nat.lt_of_lt_of_le L.out.b.lt hbx.size)).trans d0
                have e1 := (hb2.cell (p := ⟨w.heap.size + 1 + 1, 1, none⟩) (by exact Nat.lt_of_lt_of_le L.out.b.lt hbx.size)).trans d1
                have e2 := (hb2.cell (p := ⟨w.heap.size + 1 + 1, 2, none⟩) (by exact Nat.lt_of_lt_of_le L.out.b.lt hbx.size)).trans d2
                have hby : Below W.heap.size W w2 := by exact hbx.trans (hb2.mono hbx.size)))
    all_goals (go_wp2_with fail; go_split_ands; go_meet; exact ⟨rfl, Lib.hid (L.out.next (by assumption))⟩)
  case rest =>
    obtain ⟨hs27, hl⟩ := hcut
    clear L c0 c1 c2
    have d1 := hl.out.b.cellv 1 (v := .int .i64 b) rfl
    have d2 := hl.out.b.cellv 2 (v := .slice A n c) rfl
    cases t
    · change _ = Value.bool true at hs27
      subst hs27
      have f0 := hl.out.z.frozen 0
      have f1 := hl.out.z.frozen 1
      have f2 := hl.out.z.frozen 2
      have c0 := hl.out.z.cellv 0 (v := .int .i64 0) rfl
      have c1 := hl.out.z.cellv 1 (v := .int .i64 0) rfl
      have c2 := hl.out.z.cellv 2 (v := .slice none 0 0) rfl
      go_wp2
      exact bodyPost_ret (results_row_tmp rfl _ _ (w.heap.size + 1) 123 (b3 0 0 (.slice none 0 0)) (0, 0) _ rfl (b3_three hl.out.z) Try.underlying123 rfl (b3_info _ _ _)) rfl ⟨rfl, below_three hl.out.bel (Nat.le_succ _) _ _ _⟩
    · change _ = Value.bool false at hs27
      subst hs27
      clear ht
      go_wp2
      go_loopw [32] (fun i wr => ∃ k : Nat, k ≤ n ∧ i = .int .i64 (k : Int) ∧ Hid ((l.take k).all cellB = true) ∧ wr = wc)
        (fun i _ => n - (intOf i).toNat)
      case atStart => exact ⟨0, Nat.zero_le _, rfl, Lib.hid rfl, rfl⟩
      case round =>
        obtain ⟨k, hk, rfl, hall, rfl⟩ := hrel
        by_cases hlt : k < n
        · obtain ⟨ad, x, rfl, had, hx, hcx⟩ := cells_at (HR.out.below hl.out.bel) hlt
          have HX := Lib.hid hx
          clear hx had
          cases hh : cellB x
          · have HH := Lib.hid hh
            clear hh
            have f0 := hl.out.z.frozen 0
            have f1 := hl.out.z.frozen 1
            have f2 := hl.out.z.frozen 2
            have c0 := hl.out.z.cellv 0 (v := .int .i64 0) rfl
            have c1 := hl.out.z.cellv 1 (v := .int .i64 0) rfl
            have c2 := hl.out.z.cellv 2 (v := .slice none 0 0) rfl
            go_wp2_with fail
            refine (C.out x false HH.out _).mono ?_
            rintro e w2 ⟨rfl, rfl⟩
            go_wp2
            have hz : l.all cellB = false := allc_not HX.out HH.out
            exact bodyPost_ret (results_row_tmp rfl _ _ (w.heap.size + 1) 123 (b3 0 0 (.slice none 0 0)) (0, 0) _ rfl (b3_three hl.out.z) Try.underlying123 rfl (b3_info _ _ _)) rfl ⟨by rw [hz]; rfl, below_three hl.out.bel (Nat.le_succ _) _ _ _⟩
          · have HH := Lib.hid hh
            clear hh
            go_wp2_with fail
            refine (C.out x true HH.out _).mono ?_
            rintro e w2 ⟨rfl, rfl⟩
            go_wp2
            go_roundw
            case rel => exact ⟨k + 1, by omega, by go_num, Lib.hid (allc_take hall.out HX.out HH.out), trivial⟩
            case measure => simp [intOf]; omega
        · obtain rfl : k = n := by omega
          have hz : l.all cellB = true := by
            have := hall.out
            rwa [List.take_of_length_le (by rw [HL.out]; exact Nat.le_refl _)] at this
          have HZ := Lib.hid hz
          clear hz
          have d0 := hl.out.b.cellv 0 (v := .int .i64 a) rfl
          have f0 := hl.out.z.frozen 0
          have f1 := hl.out.z.frozen 1
          have f2 := hl.out.z.frozen 2
          have c0 := hl.out.z.cellv 0 (v := .int .i64 0) rfl
          have c1 := hl.out.z.cellv 1 (v := .int .i64 0) rfl
          have c2 := hl.out.z.cellv 2 (v := .slice none 0 0) rfl
          go_wp2
          exact bodyPost_ret (results_row_tmp rfl _ _ (w.heap.size + 1) 123 (b3 a b (.slice A k c)) (0, 0) _ rfl (b3_three hl.out.z) Try.underlying123 rfl (b3_info _ _ _)) rfl ⟨by rw [HZ.out]; rfl, below_three hl.out.bel (Nat.le_succ _) _ _ _⟩

/-- boardOf of whatever floor. -/
theorem boardOf_any (a b : Int) (A : Option Addr) (n c : Nat) (l : List UInt8) (w : World) (hr : Reads w w.heap.size 1 A n (bv l)) (hn : n ≤ 140737488351232) :
    Calls Try.prog 94 #[.agg #[.int .i64 a, .int .i64 b, .slice A n c]] w fun e w' => e = .returned (boardE a b (.slice A n c) (floorB a b l)) ∧ Below w.heap.size w w' := by
  have hlen : l.length = n := by have := hr.1; simpa using this
  unfold floorB
  rw [hlen]
  cases h : gridB a b
  · exact boardOf_bad a b A n c w h
  · obtain ⟨h1, h2⟩ := (gridB_iff _ _).1 h
    by_cases he : (n : Int) = a * b
    · rw [decide_eq_true he]
      exact boardOf_fit a b A n c l true w h1 h2 hr hn (by simp [he])
    · rw [decide_eq_false he]
      exact boardOf_fit a b A n c l false w h1 h2 hr hn (by simpa using he)
end Go.Proofs.Ytcbghchciplfcaa
