/-
  GRIDOF: the contract of floor's gridOf.
-/
import Derived.Test.YthehkapaipfoaaaGrid3
import Derived.Test.YthehkapaipfoaaaArr
import Derived.Outline
namespace Go.Proofs.Ythehkapaipfoaaa
set_option linter.unusedVariables false
set_option linter.unusedSimpArgs false
set_option maxRecDepth 100000
open Go.RowKit

/-- numbers as values. -/
def iv (l : List Int) : List Value := l.map (Value.int .i64)
@[simp] theorem iv_length (l : List Int) : (iv l).length = l.length := by simp [iv]
theorem iv_at {l : List Int} {k : Nat} {p : Int} (h : l[k]? = some p) : (iv l)[k]? = some (.int .i64 p) := by simp [iv, h]
def g2 (a b : Int) : Array Value := #[.int .i64 a, .int .i64 b]
theorem g2_info (a b : Int) : (Try.prog.info? 88).map (·.size) = some (g2 a b).size := by
  show _ = some 2
  kernel_rfl
theorem g2_two {w : World} {g : Nat} {a b c d : Int} (h : Blk w g 88 (g2 a b)) : Blk ((w.setCell ⟨g, 0, none⟩ (.int .i64 c)).setCell ⟨g, 1, none⟩ (.int .i64 d)) g 88 (g2 c d) :=
  (h.set_ 0 _).set_ 1 _
theorem below_two {B g : Nat} {w w' : World} (h : Below B w w') (hg : B ≤ g) (c d : Value) : Below B w ((w'.setCell ⟨g, 0, none⟩ c).setCell ⟨g, 1, none⟩ d) := (h.setCell hg _).setCell hg _

theorem gridOf_bad (a b : Int) (s : Value) (w : World) (h : gridB a b = false) :
    Calls Try.prog 64 #[.int .i64 a, .int .i64 b, s] w fun e w' => e = .returned (.tuple #[.agg #[.int .i64 0, .int .i64 0], .int .i64 2]) ∧ Below w.heap.size w w' := by
  have V := Lib.hid (fun W => valid_any a b W)
  rw [h] at V
  clear h
  go_enter Try.func64, Try.ntmps64
  go_wp2_with fail
  refine (V.out _).mono ?_
  rintro e w1 ⟨rfl, hb1⟩
  have b0 : Blk w1 w.heap.size 88 (g2 0 0) := ((Blk.new w 88 (g2 0 0)).alloc _).below hb1 (by simp; omega)
  have f0 := b0.frozen 0
  have f1 := b0.frozen 1
  have c0 := b0.cellv 0 (v := .int .i64 0) rfl
  have c1 := b0.cellv 1 (v := .int .i64 0) rfl
  have B0 := Lib.hid b0
  have B1 := Lib.hid ((((Below.refl _ _).alloc (Nat.le_refl _) _).alloc (by simp) _).trans (hb1.mono (by simp; omega)))
  clear hb1 b0
  go_wp2
  exact bodyPost_ret (results_row_tmp rfl _ _ w.heap.size 88 (g2 0 0) (0, 0) _ rfl (g2_two B0.out) Try.underlying88 rfl (g2_info _ _)) rfl ⟨rfl, below_two B1.out (Nat.le_refl _) _ _⟩

theorem all_take {l : List Int} {f : Int → Bool} {k : Nat} {p : Int} (h : (l.take k).all f = true) (hp : l[k]? = some p) (hf : f p = true) : (l.take (k + 1)).all f = true := by
  rw [List.take_add_one, hp]
  simp only [Option.toList_some, List.all_append, h, List.all_cons, hf, List.all_nil, Bool.and_self]
theorem all_not {l : List Int} {f : Int → Bool} {k : Nat} {p : Int} (hp : l[k]? = some p) (hf : f p = false) : l.all f = false := by
  have hm := List.mem_of_getElem? hp
  cases h : l.all f
  · rfl
  · rw [List.all_eq_true] at h
    have := h p hm
    rw [hf] at this
    cases this

/-- what gridOf of valid sides comes to. -/
def gridE (a b : Int) (t : Bool) : Value := match t with
  | true => .tuple #[.agg #[.int .i64 a, .int .i64 b], .int .i64 0]
  | false => .tuple #[.agg #[.int .i64 0, .int .i64 0], .int .i64 2]
set_option maxHeartbeats 1600000 in
theorem gridOf_ok (a b : Int) (A : Option Addr) (n c : Nat) (ps : List Int) (w : World) (ha : 2 ≤ a ∧ a ≤ 8) (hb : 2 ≤ b ∧ b ≤ 8) (hr : Reads w w.heap.size 1 A n (iv ps)) (hn : n ≤ 1000) :
    Calls Try.prog 64 #[.int .i64 a, .int .i64 b, .slice A n c] w fun e w' =>
      e = .returned (gridE a b (ps.all (hasB a b))) ∧ Below w.heap.size w w' := by
  have V := Lib.hid (fun W => valid_any a b W)
  rw [show gridB a b = true from (gridB_iff _ _).2 ⟨ha, hb⟩] at V
  have H := Lib.hid (fun (p : Int) (t : Bool) (h : hasB a b p = t) W => h ▸ has_any a b p W ha hb)
  have hlen : ps.length = n := by have := hr.1; simpa using this
  have HR := Lib.hid hr; have HL := Lib.hid hlen
  clear hr hlen ha hb
  go_enter Try.func64, Try.ntmps64
  go_wp2_with fail
  refine (V.out _).mono ?_
  rintro e w1 ⟨rfl, hb1⟩
  have b0 : Blk w1 w.heap.size 88 (g2 0 0) := ((Blk.new w 88 (g2 0 0)).alloc _).below hb1 (by simp; omega)
  have b1' : Blk ((w.alloc (.cells (g2 0 0) 88)).alloc (.cells (g2 a b) 88)) (w.heap.size + 1) 88 (g2 a b) := by
    have := Blk.new (w.alloc (.cells (g2 0 0) 88)) 88 (g2 a b)
    simpa using this
  have b1 : Blk w1 (w.heap.size + 1) 88 (g2 a b) := b1'.below hb1 (by simp)
  have hbw : Below w.heap.size w w1 := ((((Below.refl _ _).alloc (Nat.le_refl _) _).alloc (by simp) _).trans (hb1.mono (by simp; omega)))
  have K0 := Lib.hid b0; have K1 := Lib.hid b1; have KW := Lib.hid hbw
  clear hb1 b0 b1 b1' hbw
  go_wp2
  go_loopw [20] (fun i wr => ∃ k : Nat, k ≤ n ∧ i = .int .i64 (k : Int) ∧ Hid ((ps.take k).all (hasB a b) = true) ∧ Hid (Blk wr w.heap.size 88 (g2 0 0)) ∧ Hid (Blk wr (w.heap.size + 1) 88 (g2 a b)) ∧ Hid (Below w.heap.size w wr))
    (fun i _ => n - (intOf i).toNat)
  case atStart => exact ⟨0, Nat.zero_le _, rfl, Lib.hid rfl, K0, K1, KW⟩
  case round =>
    obtain ⟨k, hk, rfl, hall, hk0, hk1, hkw⟩ := hrel
    clear K0 K1 KW
    by_cases hlt : k < n
    · obtain ⟨p, hp⟩ : ∃ p, ps[k]? = some p := ⟨_, List.getElem?_eq_getElem (by rw [HL.out]; exact hlt)⟩
      obtain ⟨ad, u, rfl, had, hu, hcu⟩ := (HR.out.below hkw.out).at_ hlt
      rw [iv_at hp] at hu
      injection hu with hu
      subst hu
      have HP := Lib.hid hp
      clear hp had
      have d0 := hk1.out.cellv 0 (v := .int .i64 a) rfl
      have d1 := hk1.out.cellv 1 (v := .int .i64 b) rfl
      cases hh : hasB a b p
      · have HH := Lib.hid hh
        clear hh
        go_wp2_with fail
        refine (H.out p false HH.out _).mono ?_
        rintro e w2 ⟨rfl, hb2⟩
        have e0 : Blk w2 w.heap.size 88 (g2 0 0) := hk0.out.below hb2 hk0.out.lt
        have f0 := e0.frozen 0
        have f1 := e0.frozen 1
        have c0 := e0.cellv 0 (v := .int .i64 0) rfl
        have c1 := e0.cellv 1 (v := .int .i64 0) rfl
        have E0 := Lib.hid e0
        have B2 := Lib.hid (hkw.out.trans (hb2.mono hkw.out.size))
        clear hb2 e0 d0 d1
        go_wp2
        have hx : ps.all (hasB a b) = false := all_not HP.out HH.out
        exact bodyPost_ret (results_row_tmp rfl _ _ w.heap.size 88 (g2 0 0) (0, 0) _ rfl (g2_two E0.out) Try.underlying88 rfl (g2_info _ _)) rfl ⟨by rw [hx]; rfl, below_two B2.out (Nat.le_refl _) _ _⟩
      · have HH := Lib.hid hh
        clear hh
        go_wp2_with fail
        refine (H.out p true HH.out _).mono ?_
        rintro e w2 ⟨rfl, hb2⟩
        have E0 := Lib.hid (hk0.out.below hb2 hk0.out.lt)
        have E1 := Lib.hid (hk1.out.below hb2 hk1.out.lt)
        have B2 := Lib.hid (hkw.out.trans (hb2.mono hkw.out.size))
        clear hb2 d0 d1
        go_wp2
        go_roundw
        case rel => exact ⟨k + 1, by omega, by go_num, Lib.hid (all_take hall.out HP.out HH.out), E0, E1, B2⟩
        case measure => simp [intOf]; omega
    · obtain rfl : k = n := by omega
      have hx : ps.all (hasB a b) = true := by
        have := hall.out
        rwa [List.take_of_length_le (by rw [HL.out]; exact Nat.le_refl _)] at this
      have HX := Lib.hid hx
      have d0 := hk1.out.cellv 0 (v := .int .i64 a) rfl
      have d1 := hk1.out.cellv 1 (v := .int .i64 b) rfl
      have f0 := hk0.out.frozen 0
      have f1 := hk0.out.frozen 1
      have c0 := hk0.out.cellv 0 (v := .int .i64 0) rfl
      have c1 := hk0.out.cellv 1 (v := .int .i64 0) rfl
      clear hx
      go_wp2
      exact bodyPost_ret (results_row_tmp rfl _ _ w.heap.size 88 (g2 a b) (0, 0) _ rfl (g2_two hk0.out) Try.underlying88 rfl (g2_info _ _)) rfl ⟨by rw [HX.out]; rfl, below_two hkw.out (Nat.le_refl _) _ _⟩
end Go.Proofs.Ythehkapaipfoaaa
