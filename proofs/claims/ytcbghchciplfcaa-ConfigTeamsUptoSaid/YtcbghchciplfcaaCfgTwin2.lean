/-
  CFGTWIN2: the reference's Twin of configs.
-/
import Derived.Test.YtcbghchciplfcaaCfgTwin
import Derived.Test.YtcbghchciplfcaaCfgSame
import Derived.StillTailTactics
import Derived.Test.YtcbghchciplfcaaFlRef
import Derived.BigQuiet
import Derived.BigRegion
namespace Go.Proofs.Ytcbghchciplfcaa
set_option linter.unusedVariables false
set_option linter.unusedSimpArgs false
set_option maxRecDepth 100000
open Go.RowKit

theorem own_types {w : World} {B B' : Nat} {e e' : TypeId} {s s' : Nat} {v v' : Value} {n n' : Nat} {xs xs' : List Value} (h : w.ownsRow B e s v n xs) (h' : w.ownsRow B' e' s' v' n' xs') (he : e ≠ e') : ∀ g, v.ownBlock = some g → v'.ownBlock ≠ some g := by
  intro g hg hg'
  rcases h.2 with ⟨rfl, _⟩ | ⟨b, cap, cur, rfl, _, hh, _⟩
  · cases hg
  · injection hg with hg
    have hg : b = g := hg
    rcases h'.2 with ⟨rfl, _⟩ | ⟨b', cap', cur', rfl, _, hh', _⟩
    · cases hg'
    · injection hg' with hg'
      have hg' : b' = g := hg'
      subst hg hg'
      rw [hh] at hh'
      injection hh' with hh'
      injection hh' with _ hh' _
      exact he hh'
abbrev ca (c : Cm) (fv sv tv : Value) : Array Value := #[.int .i64 c.a, .int .i64 c.b, fv, sv, tv, .int .u64 (c.st : Int)]
structure TwW (w X : World) (c : Cm) (fv sv tv : Value) (us : List Tm) : Prop where
  kf : Blk X w.heap.size 36 (ca c fv sv tv)
  kg : ∃ z : Array Value, z.size = 6 ∧ Blk X (w.heap.size + 1) 36 z
  f : X.ownsRow (w.heap.size + 2) 5 1 fv c.fn (bv c.cl)
  s : X.ownsRow (w.heap.size + 2) 5 1 sv c.sn (bv c.sl)
  sep : ∀ g, fv.ownBlock = some g → sv.ownBlock ≠ some g
  t : X.ownsRow (w.heap.size + 2) 24 8 tv us.length (us.flatMap Tm.cells)
  us : ∀ u ∈ us, u.Own X (w.heap.size + 2)
  bel : Below w.heap.size w X
  hz : w.heap.size + 2 ≤ X.heap.size
theorem TwW.next {w X X' : World} {c : Cm} {fv sv tv : Value} {us : List Tm} (h : TwW w X c fv sv tv us) (hb : Below X.heap.size X X') : TwW w X' c fv sv tv us :=
  ⟨h.kf.below hb h.kf.lt, (by obtain ⟨z, hz, hk⟩ := h.kg; exact ⟨z, hz, hk.below hb hk.lt⟩), own_go h.f hb, own_go h.s hb, h.sep, own_go h.t hb, fun u hu => (h.us u hu).go hb, h.bel.trans (hb.mono h.bel.size), Nat.le_trans h.hz hb.size⟩
theorem below_grow {B : Nat} {a w : World} {row : Option Nat} (h : a.grownBy w row) (hr : ∀ g, row = some g → B ≤ g) (hB : B ≤ a.heap.size) : Below B a w :=
  ⟨h.os, h.tape, h.output, h.size, fun i hi => h.block i (by omega) (fun e => by have := hr i e.symm; omega)⟩
theorem own_ge {w : World} {B n : Nat} {v : Value} {e : TypeId} {size : Nat} {xs : List Value} (h : w.ownsRow B e size v n xs) : ∀ g, v.ownBlock = some g → B ≤ g := by
  rcases h.2 with ⟨rfl, _⟩ | ⟨g, cap, cur, rfl, hb, hh, _⟩
  · intro g hg; cases hg
  · intro g' hg
    injection hg with hg
    have hg : g = g' := hg
    omega
theorem TwW.app {w X X' : World} {c : Cm} {fv sv tv tv' : Value} {us : List Tm} {u : Tm} (h : TwW w X c fv sv tv us) (hu : u.Own X (w.heap.size + 2)) (o : Obj) (hg : (X.alloc o).grownBy X' tv.ownBlock)
    (hown : X'.ownsRow (w.heap.size + 2) 24 8 tv' (us.length + 1) (us.flatMap Tm.cells ++ u.cells)) : TwW w (X'.setCell ⟨w.heap.size, 4, none⟩ tv') c fv sv tv' (us ++ [u]) := by
  have hA : Below X.heap.size X (X.alloc o) := bk_alloc (Below.refl _ _) _
  have H := h.next hA
  have Hu := hu.go hA
  have ht := own_ge H.t
  have hB : Below (w.heap.size + 2) (X.alloc o) X' := below_grow hg ht H.hz
  have off : ∀ {B : Nat} {v : Value} {n : Nat} {xs : List Value}, (X.alloc o).ownsRow (w.heap.size + 2) B 1 v n xs → B ≠ 24 → (X'.setCell ⟨w.heap.size, 4, none⟩ tv').ownsRow (w.heap.size + 2) B 1 v n xs := by
    intro B v n xs hv hne
    refine own_far (own_grown hv hg (fun g hg => own_types hv H.t hne g hg)) ?_ _
    show w.heap.size < _
    omega
  refine ⟨?_, ?_, off H.f (by decide), off H.s (by decide), h.sep, ?_, ?_, ?_, ?_⟩
  · have := (H.kf.below hB (by omega)).set_ 4 tv'
    exact this
  · obtain ⟨z, hz, hk⟩ := H.kg
    exact ⟨z, hz, (hk.below hB (by omega)).far (by show _ ≠ w.heap.size; omega) _⟩
  · have := own_far hown (p := ⟨w.heap.size, 4, none⟩) (by show w.heap.size < _; omega) tv'
    simpa [List.flatMap_append] using this
  · intro x hx
    rcases List.mem_append.1 hx with hx | hx
    · have := H.us x hx
      exact ⟨off this.h (by decide), off this.p (by decide), off this.d (by decide), this.h1, this.p1, this.d1⟩
    · simp at hx
      subst hx
      exact ⟨off Hu.h (by decide), off Hu.p (by decide), off Hu.d (by decide), Hu.h1, Hu.p1, Hu.d1⟩
  · exact (H.bel.trans (hB.mono (by omega))).setCell (Nat.le_refl _) _
  · have := hB.size
    have := H.hz
    simp [World.setCell]
    omega
theorem reads_row (w : World) (t : TypeId) (cs : Array Value) (size n : Nat) (h : cs.size = n * size) : Reads (w.alloc (.cells cs t)) (w.heap.size + 1) size (some ⟨w.heap.size, 0, none⟩) n cs.toList := by
  refine ⟨by simpa using h, fun _ => ⟨_, rfl, Nat.lt_succ_self _, fun j u hu => ?_⟩⟩
  have := (Blk.new w t cs).cellv j (v := u) (by simpa using hu)
  rw [show (⟨w.heap.size, 0, none⟩ : Addr).add j = ⟨w.heap.size, j, none⟩ from by unfold Addr.add; split <;> simp_all]
  exact this
theorem TwW.grown {w X X' : World} {c : Cm} {fv sv tv : Value} {us : List Tm} (h : TwW w X c fv sv tv us) (o : Obj) (hg : (X.alloc o).grownBy X' tv.ownBlock) : Blk X' w.heap.size 36 (ca c fv sv tv) := by
  have H := h.next (bk_alloc (Below.refl _ _) o)
  exact H.kf.below (below_grow hg (own_ge H.t) H.hz) (by omega)
theorem TwW.grownBel {w X X' : World} {c : Cm} {fv sv tv : Value} {us : List Tm} (h : TwW w X c fv sv tv us) (o : Obj) (hg : (X.alloc o).grownBy X' tv.ownBlock) : Below w.heap.size w X' := by
  have H := h.next (bk_alloc (Below.refl _ _) o)
  exact H.bel.trans ((below_grow hg (own_ge H.t) H.hz).mono (by omega))
theorem config_size : (Try.prog.info? 36).map (·.size) = some 6 := by kernel_rfl
theorem team_info : (Try.prog.info? 24).map (fun i => (i.zero, i.size, i.bytes)) = some (some (.agg #[.slice none 0 0, .slice none 0 0, .slice none 0 0, .int .i64 0, .int .i64 0, .int .i64 0, .int .i64 0, .int .i64 0]), 8, 112) := by kernel_rfl
theorem cells_oneCell (u : Tm) : ∀ v ∈ u.cells, v.oneCell' = true := by
  intro v hv
  simp only [Tm.cells, List.mem_cons, List.not_mem_nil, or_false] at hv
  rcases hv with rfl | rfl | rfl | rfl | rfl | rfl | rfl | rfl <;> rfl
set_option maxHeartbeats 3200000 in
theorem twinCfg_any (c : Cm) (w : World) (hc : c.In w w.heap.size) :
    Calls Try.prog 38 #[c.val] w fun e w' => ∃ u : Cm, e = .returned u.val ∧ u.cf = c.cf ∧ Hid (u.Own w' w.heap.size) ∧ Below w.heap.size w w' := by
  obtain ⟨i0, hi, hz0, hz1, hz2⟩ := info_parts u8_info'
  obtain ⟨iT, hiT, hT0, hT1, hT2⟩ := info_parts team_info
  have f1 := hc.f1; have s1 := hc.s1; have t1 := hc.t1
  have CI := Lib.hid hc
  have BX : Hid (Below w.heap.size w ((w.alloc (.cells #[.int .i64 c.a, .int .i64 c.b, .slice c.fA c.fn c.fc, .slice c.sA c.sn c.sc, .slice c.tA c.tn c.tc, .int .u64 (c.st : Int)] 36)).alloc (.cells #[.int .i64 0, .int .i64 0, .slice none 0 0, .slice none 0 0, .slice none 0 0, .int .u64 0] 36))) := Lib.hid (bk_alloc (bk_alloc (Below.refl _ _) _) _)
  have KF : Hid (Blk ((w.alloc (.cells #[.int .i64 c.a, .int .i64 c.b, .slice c.fA c.fn c.fc, .slice c.sA c.sn c.sc, .slice c.tA c.tn c.tc, .int .u64 (c.st : Int)] 36)).alloc (.cells #[.int .i64 0, .int .i64 0, .slice none 0 0, .slice none 0 0, .slice none 0 0, .int .u64 0] 36)) w.heap.size 36 c.arr) := Lib.hid ((Blk.new w 36 c.arr).alloc _)
  have KG : Hid (∃ z : Array Value, z.size = 6 ∧ Blk ((w.alloc (.cells #[.int .i64 c.a, .int .i64 c.b, .slice c.fA c.fn c.fc, .slice c.sA c.sn c.sc, .slice c.tA c.tn c.tc, .int .u64 (c.st : Int)] 36)).alloc (.cells #[.int .i64 0, .int .i64 0, .slice none 0 0, .slice none 0 0, .slice none 0 0, .int .u64 0] 36)) (w.heap.size + 1) 36 z) := Lib.hid (by
    have := Blk.new (w.alloc (.cells c.arr 36)) 36 #[.int .i64 0, .int .i64 0, .slice none 0 0, .slice none 0 0, .slice none 0 0, .int .u64 0]
    rw [show (w.alloc (.cells c.arr 36)).heap.size = w.heap.size + 1 from by simp] at this
    exact ⟨_, rfl, this⟩)
  have HZ : Hid (w.heap.size + 2 ≤ ((w.alloc (.cells #[.int .i64 c.a, .int .i64 c.b, .slice c.fA c.fn c.fc, .slice c.sA c.sn c.sc, .slice c.tA c.tn c.tc, .int .u64 (c.st : Int)] 36)).alloc (.cells #[.int .i64 0, .int .i64 0, .slice none 0 0, .slice none 0 0, .slice none 0 0, .int .u64 0] 36)).heap.size) := Lib.hid (by simp)
  clear hc
  go_enter Try.func38, Try.ntmps38
  go_upto_region 1 with fail
  generalize (w.alloc _).alloc _ = W0 at *
  have KF0 := KF; have KG0 := KG; have BX0 := BX; have HZ0 := HZ
  clear KF KG BX HZ
  have c0 := KF0.out.cellv 0 (v := .int .i64 c.a) rfl
  have c1 := KF0.out.cellv 1 (v := .int .i64 c.b) rfl
  have c2 := KF0.out.cellv 2 (v := .slice c.fA c.fn c.fc) rfl
  go_wp2_with fail
  refine (twin_any c.a c.b c.fA c.fn c.fc c.cl W0 (CI.out.go BX0.out).f (by omega)).mono ?_
  rintro e w1 ⟨A1, cA1, rfl, HO, hb⟩
  have HG := Lib.hid hb
  clear hb c0 c1 c2
  have KF1 := Lib.hid (KF0.out.below HG.out KF0.out.lt)
  have f0 := KF1.out.frozen 0
  have f1' := KF1.out.frozen 1
  have f2' := KF1.out.frozen 2
  have c0 := KF1.out.cellv 0 (v := .int .i64 c.a) rfl
  have c1 := KF1.out.cellv 1 (v := .int .i64 c.b) rfl
  have c2 := KF1.out.cellv 2 (v := .slice c.fA c.fn c.fc) rfl
  go_upto_region 2 with fail
  clear f0 f1' f2' c0 c1 c2
  generalize hW : World.setCell _ _ _ = W1
  have HW := Lib.hid hW
  clear hW
  have KF2 := Lib.hid (by have := ((KF1.out.set_ 0 (.int .i64 c.a)).set_ 1 (.int .i64 c.b)).set_ 2 (.slice A1 c.fn cA1); rw [HW.out] at this; exact this)
  have KG2 : Hid (∃ z : Array Value, z.size = 6 ∧ Blk W1 (w.heap.size + 1) 36 z) := Lib.hid (by obtain ⟨z, hz, hk⟩ := KG0.out; refine ⟨z, hz, ?_⟩; rw [← HW.out]; exact (((hk.below HG.out (by have := HZ0.out; omega)).far (by show _ ≠ w.heap.size; omega) _).far (by show _ ≠ w.heap.size; omega) _).far (by show _ ≠ w.heap.size; omega) _)
  have BX2 : Hid (Below w.heap.size w W1) := Lib.hid (by rw [← HW.out]; exact (((BX0.out.trans (HG.out.mono BX0.out.size)).setCell (Nat.le_refl _) _).setCell (Nat.le_refl _) _).setCell (Nat.le_refl _) _)
  have HZ2 : Hid (w.heap.size + 2 ≤ W1.heap.size) := Lib.hid (by rw [← HW.out]; have := HG.out.size; have := HZ0.out; simp [World.setCell]; omega)
  have OF2 : Hid (W1.ownsRow (w.heap.size + 2) 5 1 (.slice A1 c.fn cA1) c.fn (bv c.cl)) := Lib.hid (by rw [← HW.out]; exact own_more (own_far (own_far (own_far HO.out (by show w.heap.size < _; have := HZ0.out; omega) _) (by show w.heap.size < _; have := HZ0.out; omega) _) (by show w.heap.size < _; have := HZ0.out; omega) _) HZ0.out)
  clear KF0 KF1 KG0 BX0 HZ0 HG HO HW w1
  have c0 := KF2.out.cellv 3 (v := .slice c.sA c.sn c.sc) rfl
  have f0 := KF2.out.frozen 3
  go_upto_region 3 with (at_builtin; refine wpList_append_any _ rfl _ _ 28 rfl W1.heap.size 5 i0 (.int .u8 0) 1 1 Try.underlying28 hi hz0 hz1 hz2 rfl (by decide) _ _ _ rfl (show W1.ownsRow W1.heap.size 5 1 (.slice none 0 0) 0 [] from ⟨rfl, .inl ⟨rfl, rfl⟩⟩) W1.heap.size _ _ _ _ rfl (CI.out.go BX2.out).s (bv_oneCell _) (by unfold maxLen; omega) (by omega) (Nat.le_refl _) ?_; intro v1 w1 hown1 hg0 _; have hg1 : W1.grownBy w1 none := hg0; rw [show (0 + c.sn = c.sn) from by omega, List.nil_append] at hown1; obtain ⟨A2, cA2, rfl, _, _, _⟩ := own_form hown1; have hk1 := KF2.out.grown hg1 (by simp); clear c0 f0; have c0 := hk1.cellv 3 (v := .slice c.sA c.sn c.sc) rfl; have f0 := hk1.frozen 3; have HG := Lib.hid (below_grown hg1); have HO := Lib.hid hown1; clear hk1 hg1 hg0 hown1)
  clear c0 f0
  generalize hW : World.setCell _ _ _ = W2
  have HW := Lib.hid hW
  clear hW
  have KF3 := Lib.hid (by have := (KF2.out.below HG.out (by have := HZ2.out; omega)).set_ 3 (.slice A2 c.sn cA2); rw [HW.out] at this; exact this)
  have KG3 : Hid (∃ z : Array Value, z.size = 6 ∧ Blk W2 (w.heap.size + 1) 36 z) := Lib.hid (by obtain ⟨z, hz, hk⟩ := KG2.out; refine ⟨z, hz, ?_⟩; rw [← HW.out]; exact (hk.below HG.out (by have := HZ2.out; omega)).far (by show _ ≠ w.heap.size; omega) _)
  have BX3 : Hid (Below w.heap.size w W2) := Lib.hid (by rw [← HW.out]; exact (BX2.out.trans (HG.out.mono BX2.out.size)).setCell (Nat.le_refl _) _)
  have HZ3 : Hid (w.heap.size + 2 ≤ W2.heap.size) := Lib.hid (by rw [← HW.out]; have := HG.out.size; have := HZ2.out; simp [World.setCell]; omega)
  have OS3 : Hid (W2.ownsRow (w.heap.size + 2) 5 1 (.slice A2 c.sn cA2) c.sn (bv c.sl)) := Lib.hid (by rw [← HW.out]; exact own_more (own_far HO.out (by show w.heap.size < _; have := HZ2.out; omega) _) HZ2.out)
  have OF3 : Hid (W2.ownsRow (w.heap.size + 2) 5 1 (.slice A1 c.fn cA1) c.fn (bv c.cl)) := Lib.hid (by rw [← HW.out]; exact own_far (own_go OF2.out HG.out) (by show w.heap.size < _; omega) _)
  have SEP : Hid (∀ g, Value.ownBlock (.slice A1 c.fn cA1) = some g → Value.ownBlock (.slice A2 c.sn cA2) ≠ some g) := Lib.hid (fun g h1 h2 => by have := own_lt OF2.out g h1; have := own_ge HO.out g h2; omega)
  clear KF2 KG2 BX2 HZ2 HG HO HW w1 OF2
  have c0 := KF3.out.cellv 4 (v := .slice c.tA c.tn c.tc) rfl
  have f0 := KF3.out.frozen 4
  go_upto_region 5 with fail
  clear c0 f0
  generalize hW : World.setCell _ _ _ = W3
  have HW := Lib.hid hW
  clear hW
  have TW : Hid (TwW w W3 c (.slice A1 c.fn cA1) (.slice A2 c.sn cA2) (.slice none 0 0) []) := Lib.hid (by
    rw [← HW.out]
    refine ⟨KF3.out.set_ 4 _, ?_, own_far OF3.out (by show w.heap.size < _; omega) _, own_far OS3.out (by show w.heap.size < _; omega) _, SEP.out, ⟨rfl, .inl ⟨rfl, rfl⟩⟩, by simp, BX3.out.setCell (Nat.le_refl _) _, by simp [World.setCell]; exact HZ3.out⟩
    obtain ⟨z, hz, hk⟩ := KG3.out
    exact ⟨z, hz, hk.far (by show _ ≠ w.heap.size; omega) _⟩)
  clear KF3 KG3 BX3 HZ3 OS3 OF3 SEP HW
  go_wp2
  go_loopw [4] (fun i wr => ∃ (k : Nat) (us : List Tm) (TA : Option Addr) (tc' : Nat), k ≤ c.tn ∧ i = .int .i64 (k : Int) ∧ Hid (TwW w wr c (.slice A1 c.fn cA1) (.slice A2 c.sn cA2) (.slice TA k tc') us) ∧ Hid (us.map (·.tm) = (c.ts.map (·.tm)).take k))
    (fun i _ => c.tn - (intOf i).toNat)
  case atStart => exact ⟨0, [], none, 0, Nat.zero_le _, rfl, TW, Lib.hid rfl⟩
  case round =>
    clear TW
    obtain ⟨k, us, TA, tc', hk, rfl, TW, HU⟩ := hrel
    by_cases hlt : k < c.tn
    · obtain ⟨ad, t, hA, had, hx, hct⟩ := teams_at CI.out.t hlt
      have HT := Lib.hid ((CI.out.go TW.out.bel).ts t (List.mem_of_getElem? hx))
      have HX := Lib.hid hx
      have d4 := (TW.out.next (bk_drew (Below.refl _ _))).kf.cellv 4 (v := .slice TA k tc') rfl
      rw [hA]
      have HUL : Hid (us.length = k) := Lib.hid (by have := congrArg List.length HU.out; simp at this; rw [this, Nat.min_eq_left (by rw [CI.out.len]; exact hk)])
      have CALL := Lib.hid (twinTeam_any t wr.drew (HT.out.go (bk_drew (Below.refl _ _))))
      have SK : Hid (∀ W', Below w.heap.size w W' → W'.cell? (ad.add (k * 8)) = some (.slice t.hA t.hn t.hc) ∧ W'.cell? ⟨(ad.add (k * 8)).block, (ad.add (k * 8)).off + 1, none⟩ = some (.slice t.pA t.pn t.pc) ∧ W'.cell? ⟨(ad.add (k * 8)).block, (ad.add (k * 8)).off + 2, none⟩ = some (.slice t.dA t.dn t.dc) ∧
          W'.cell? ⟨(ad.add (k * 8)).block, (ad.add (k * 8)).off + 3, none⟩ = some (.int .i64 t.tm.lo) ∧ W'.cell? ⟨(ad.add (k * 8)).block, (ad.add (k * 8)).off + 4, none⟩ = some (.int .i64 t.tm.un) ∧ W'.cell? ⟨(ad.add (k * 8)).block, (ad.add (k * 8)).off + 5, none⟩ = some (.int .i64 t.tm.qu) ∧
          W'.cell? ⟨(ad.add (k * 8)).block, (ad.add (k * 8)).off + 6, none⟩ = some (.int .i64 t.tm.qt) ∧ W'.cell? ⟨(ad.add (k * 8)).block, (ad.add (k * 8)).off + 7, none⟩ = some (.int .i64 t.tm.wi)) :=
        Lib.hid (fun W' hb => team_spelled (p := ad.add (k * 8)) (fun j v hv => by rw [add_of_add]; exact (hb.cell (by rw [block_of_add]; exact had)).trans (hct j v hv)))
      have BD : Hid (Below w.heap.size w wr.drew) := Lib.hid (TW.out.next (bk_drew (Below.refl _ _))).bel
      clear hx hct hA had
      have k0 : (0 : Int) ≤ (k : Int) := by omega
      have k1 : (k : Int) < (c.tn : Int) := by omega
      go_wp2
      refine wp_region_held_drew (S := fun W' => W'.cell? (ad.add (k * 8)) = some (.slice t.hA t.hn t.hc) ∧ W'.cell? ⟨(ad.add (k * 8)).block, (ad.add (k * 8)).off + 1, none⟩ = some (.slice t.pA t.pn t.pc) ∧ W'.cell? ⟨(ad.add (k * 8)).block, (ad.add (k * 8)).off + 2, none⟩ = some (.slice t.dA t.dn t.dc) ∧
          W'.cell? ⟨(ad.add (k * 8)).block, (ad.add (k * 8)).off + 3, none⟩ = some (.int .i64 t.tm.lo) ∧ W'.cell? ⟨(ad.add (k * 8)).block, (ad.add (k * 8)).off + 4, none⟩ = some (.int .i64 t.tm.un) ∧ W'.cell? ⟨(ad.add (k * 8)).block, (ad.add (k * 8)).off + 5, none⟩ = some (.int .i64 t.tm.qu) ∧
          W'.cell? ⟨(ad.add (k * 8)).block, (ad.add (k * 8)).off + 6, none⟩ = some (.int .i64 t.tm.qt) ∧ W'.cell? ⟨(ad.add (k * 8)).block, (ad.add (k * 8)).off + 7, none⟩ = some (.int .i64 t.tm.wi)) (by kernel_rfl) (SK.out _ BD.out) (fun hHeld => ?_)
      refine wpAnyH_take (i := 0) (oi := { dst := some 22, op := Op.fieldAddr 36 (Operand.tmp 1) 2, type := 0, pos := "ref.go:235", after := #[], guard := none }) (v := ?_) rfl (by kernel_rfl) (by kernel_rfl) (by kernel_rfl) (fun _ _ _ h => h) (Or.inl ⟨by rfl, ?_⟩) (by assumption) ?_
      rotate_left
      · intro w hSw
        (try dsimp only at hSw)
        go_simp
        (try with_reducible rfl)
      simp only [Act.put, List.setIfInBounds_toArray, List.set_cons_zero, List.set_cons_succ]
      refine wpAnyH_take (i := 2) (oi := { dst := some 24, op := Op.move (Operand.tmp 3), type := 33, pos := "ref.go:235", after := #[], guard := none }) (v := ?_) rfl (by kernel_rfl) (by kernel_rfl) (by kernel_rfl) (fun _ _ _ h => h) (Or.inl ⟨by rfl, ?_⟩) (by assumption) ?_
      rotate_left
      · intro w hSw
        (try dsimp only at hSw)
        go_simp
        (try with_reducible rfl)
      simp only [Act.put, List.setIfInBounds_toArray, List.set_cons_zero, List.set_cons_succ]
      refine wpAnyH_take (i := 3) (oi := { dst := some 25, op := Op.move (Operand.tmp 4), type := 3, pos := "ref.go:235", after := #[], guard := none }) (v := ?_) rfl (by kernel_rfl) (by kernel_rfl) (by kernel_rfl) (fun _ _ _ h => h) (Or.inl ⟨by rfl, ?_⟩) (by assumption) ?_
      rotate_left
      · intro w hSw
        (try dsimp only at hSw)
        go_simp
        (try with_reducible rfl)
      simp only [Act.put, List.setIfInBounds_toArray, List.set_cons_zero, List.set_cons_succ]
      refine wpAnyH_take (i := 4) (oi := { dst := some 26, op := Op.indexAddr 33 (Operand.tmp 24) (Operand.tmp 25), type := 0, pos := "ref.go:235", after := #[{ on := 2, ground := Ground.data }, { on := 3, ground := Ground.data }], guard := none }) (v := ?_) rfl (by kernel_rfl) (by kernel_rfl) (by kernel_rfl) (fun _ _ _ h => h) (Or.inl ⟨by rfl, ?_⟩) (by assumption) ?_
      rotate_left
      · intro w hSw
        (try dsimp only at hSw)
        go_simp
        (try with_reducible rfl)
      simp only [Act.put, List.setIfInBounds_toArray, List.set_cons_zero, List.set_cons_succ]
      refine wpAnyH_take (i := 5) (oi := { dst := some 27, op := Op.load 24 (Operand.tmp 26), type := 24, pos := "ref.go:235", after := #[{ on := 4, ground := Ground.data }], guard := none }) (v := ?_) rfl (by kernel_rfl) (by kernel_rfl) (by kernel_rfl) (fun _ _ _ h => h) (Or.inl ⟨by rfl, ?_⟩) (by assumption) ?_
      rotate_left
      · intro w hSw
        (try dsimp only at hSw)
        go_simp
        (try with_reducible rfl)
      simp only [Act.put, List.setIfInBounds_toArray, List.set_cons_zero, List.set_cons_succ]
      refine wpAnyH_ready (rs := [1, 6]) (by kernel_rfl) (by simp) ?_
      refine AllReadyH.cons (o := { dst := some 23, op := Op.load 33 (Operand.tmp 22), type := 33, pos := "ref.go:235", after := #[{ on := 0, ground := Ground.data }], guard := none }) rfl (fun K hK => ?_) (AllReadyH.cons (o := { dst := some 28, op := Op.call { callee := Callee.value (Operand.func 30), args := #[Operand.tmp 27], argTypes := #[24] }, type := 24, pos := "ref.go:235", after := #[{ on := 5, ground := Ground.data }], guard := none }) rfl (fun K hK => ?_) (AllReadyH.nil))
      · go_simp
        refine hK.out _ _ (SK.out _ BD.out) (fun hHeld => ?_)
        clear hK
        (try simp only [Act.put, List.setIfInBounds_toArray, List.set_cons_zero, List.set_cons_succ])
        refine wpAnyH_ready (rs := [6]) (by kernel_rfl) (by simp) ?_
        refine AllReadyH.cons (o := { dst := some 28, op := Op.call { callee := Callee.value (Operand.func 30), args := #[Operand.tmp 27], argTypes := #[24] }, type := 24, pos := "ref.go:235", after := #[{ on := 5, ground := Ground.data }], guard := none }) rfl (fun K hK => ?_) (AllReadyH.nil)
        rw [if_pos (by rfl)]
        go_wp2_with fail
        refine (CALL.out).mono ?_
        rintro e w1 ⟨u, rfl, hu, HO, hb⟩
        have HB : Hid (Below wr.heap.size wr w1) := Lib.hid ((bk_drew (Below.refl _ _)).trans hb)
        have TW1 := Lib.hid (TW.out.next HB.out)
        have OU : Hid (u.Own w1 (w.heap.size + 2)) := Lib.hid (HO.out.more TW.out.hz)
        have OT := Lib.hid (TW1.out.next (bk_alloc (Below.refl _ _) (.cells u.arr 24))).t
        have HZ := Lib.hid TW1.out.hz
        have HU1 := Lib.hid hu
        have BW1 : Hid (Below w.heap.size w w1) := Lib.hid TW1.out.bel
        have d4' := TW1.out.kf.cellv 4 (v := .slice TA k tc') rfl
        have d4a := (TW1.out.next (bk_alloc (Below.refl _ _) (.cells u.arr 24))).kf.cellv 4 (v := .slice TA k tc') rfl
        clear hb hu HO
        rw [HUL.out] at OT
        refine hK.out _ _ (SK.out _ BW1.out) (fun hHeld => ?_)
        clear hK
        (try simp only [Act.put, List.setIfInBounds_toArray, List.set_cons_zero, List.set_cons_succ])
        refine wpAnyH_ready (rs := [7]) (by kernel_rfl) (by simp) ?_
        refine AllReadyH.cons (o := { dst := some 29, op := Op.buildSlice 33 1 #[(0, Operand.tmp 28)], type := 33, pos := "ref.go:235", after := #[{ on := 6, ground := Ground.data }], guard := none }) rfl (fun K hK => ?_) (AllReadyH.nil)
        go_simp
        refine hK.out _ _ (SK.out _ (bk_alloc BW1.out _)) (fun hHeld => ?_)
        clear hK
        (try simp only [Act.put, List.setIfInBounds_toArray, List.set_cons_zero, List.set_cons_succ])
        refine wpAnyH_ready (rs := [8]) (by kernel_rfl) (by simp) ?_
        refine AllReadyH.cons (o := { dst := some 30, op := Op.call { callee := Callee.builtin Builtin.append, args := #[Operand.tmp 23, Operand.tmp 29], argTypes := #[33, 33] }, type := 33, pos := "ref.go:235", after := #[{ on := 1, ground := Ground.data }, { on := 7, ground := Ground.data }, { on := 6, ground := Ground.chain }], guard := none }) rfl (fun K hK => ?_) (AllReadyH.nil)
        (refine step_append_any _ rfl (.tmp 23) (.tmp 29) 33 rfl (w.heap.size + 2) 24 iT _ 8 112 Try.underlying33 hiT hT0 hT1 hT2 rfl (by decide) _ _ _ (by simp [Act.eval, Act.put]) OT.out (w1.heap.size + 1) _ 1 1 _ (by simp [Act.eval, Act.put]) (reads_row _ 24 u.arr 8 1 rfl) (cells_oneCell u) (by unfold maxLen; omega) (by omega) (by have := HZ.out; simp; omega) ?_; intro v1 w2 hown1 hg1 _)
        have hk1 := TW1.out.grown _ hg1
        have c4 := hk1.cellv 4 (v := .slice TA k tc') rfl
        have f4 := hk1.frozen 4
        have HN := Lib.hid hown1
        have HG := Lib.hid hg1
        obtain ⟨A', c', rfl, _, _, _⟩ := own_form hown1
        have BW2 : Below w.heap.size w w2 := TW1.out.grownBel _ hg1
        clear hown1 hg1 hk1
        refine hK.out _ _ (SK.out _ BW2) (fun hHeld => ?_)
        clear hK
        (try simp only [Act.put, List.setIfInBounds_toArray, List.set_cons_zero, List.set_cons_succ])
        refine wpAnyH_take (i := 9) (oi := { dst := some 31, op := Op.fieldAddr 36 (Operand.tmp 1) 2, type := 0, pos := "ref.go:235", after := #[{ on := 0, ground := Ground.phase }, { on := 1, ground := Ground.phase }, { on := 2, ground := Ground.phase }, { on := 3, ground := Ground.phase }, { on := 4, ground := Ground.phase }, { on := 5, ground := Ground.phase }, { on := 6, ground := Ground.phase }, { on := 7, ground := Ground.phase }, { on := 8, ground := Ground.phase }], guard := none }) (v := ?_) rfl (by kernel_rfl) (by kernel_rfl) (by kernel_rfl) (fun _ _ _ h => h) (Or.inl ⟨by rfl, ?_⟩) (by assumption) ?_
        rotate_left
        · intro w hSw
          (try dsimp only at hSw)
          go_simp
          (try with_reducible rfl)
        simp only [Act.put, List.setIfInBounds_toArray, List.set_cons_zero, List.set_cons_succ]
        refine wpAnyH_ready (rs := [10]) (by kernel_rfl) (by simp) ?_
        refine AllReadyH.cons (o := { dst := none, op := Op.store 33 (Operand.tmp 31) (Operand.tmp 30), type := 0, pos := "ref.go:235", after := #[{ on := 9, ground := Ground.data }, { on := 8, ground := Ground.data }, { on := 8, ground := Ground.chain }, { on := 0, ground := Ground.phase }, { on := 1, ground := Ground.phase }, { on := 2, ground := Ground.phase }, { on := 3, ground := Ground.phase }, { on := 4, ground := Ground.phase }, { on := 5, ground := Ground.phase }, { on := 6, ground := Ground.phase }, { on := 7, ground := Ground.phase }, { on := 8, ground := Ground.phase }], guard := none }) rfl (fun K hK => ?_) (AllReadyH.nil)
        go_simp
        refine hK.out _ _ (SK.out _ (BW2.setCell (Nat.le_refl _) _)) (fun hHeld => ?_)
        clear hK
        (try simp only [Act.put, List.setIfInBounds_toArray, List.set_cons_zero, List.set_cons_succ])
        refine wpAnyH_done (by kernel_rfl) ?_ _
        go_wp2
        go_roundw
        case rel =>
          refine ⟨k + 1, us ++ [u], A', c', by omega, by go_num, Lib.hid (TW1.out.app OU.out _ HG.out (by rw [HUL.out]; exact HN.out)), Lib.hid ?_⟩
          rw [List.map_append, HU.out, List.take_add_one, List.getElem?_map, HX.out]
          simp [HU1.out]
        case measure => simp [intOf]; omega
      · rw [if_pos (by rfl)]
        go_wp2_with fail
        refine (CALL.out).mono ?_
        rintro e w1 ⟨u, rfl, hu, HO, hb⟩
        have HB : Hid (Below wr.heap.size wr w1) := Lib.hid ((bk_drew (Below.refl _ _)).trans hb)
        have TW1 := Lib.hid (TW.out.next HB.out)
        have OU : Hid (u.Own w1 (w.heap.size + 2)) := Lib.hid (HO.out.more TW.out.hz)
        have OT := Lib.hid (TW1.out.next (bk_alloc (Below.refl _ _) (.cells u.arr 24))).t
        have HZ := Lib.hid TW1.out.hz
        have HU1 := Lib.hid hu
        have BW1 : Hid (Below w.heap.size w w1) := Lib.hid TW1.out.bel
        have d4' := TW1.out.kf.cellv 4 (v := .slice TA k tc') rfl
        have d4a := (TW1.out.next (bk_alloc (Below.refl _ _) (.cells u.arr 24))).kf.cellv 4 (v := .slice TA k tc') rfl
        clear hb hu HO
        rw [HUL.out] at OT
        refine hK.out _ _ (SK.out _ BW1.out) (fun hHeld => ?_)
        clear hK
        (try simp only [Act.put, List.setIfInBounds_toArray, List.set_cons_zero, List.set_cons_succ])
        refine wpAnyH_ready (rs := [1, 7]) (by kernel_rfl) (by simp) ?_
        refine AllReadyH.cons (o := { dst := some 23, op := Op.load 33 (Operand.tmp 22), type := 33, pos := "ref.go:235", after := #[{ on := 0, ground := Ground.data }], guard := none }) rfl (fun K hK => ?_) (AllReadyH.cons (o := { dst := some 29, op := Op.buildSlice 33 1 #[(0, Operand.tmp 28)], type := 33, pos := "ref.go:235", after := #[{ on := 6, ground := Ground.data }], guard := none }) rfl (fun K hK => ?_) (AllReadyH.nil))
        · go_simp
          refine hK.out _ _ (SK.out _ BW1.out) (fun hHeld => ?_)
          clear hK
          (try simp only [Act.put, List.setIfInBounds_toArray, List.set_cons_zero, List.set_cons_succ])
          refine wpAnyH_ready (rs := [7]) (by kernel_rfl) (by simp) ?_
          refine AllReadyH.cons (o := { dst := some 29, op := Op.buildSlice 33 1 #[(0, Operand.tmp 28)], type := 33, pos := "ref.go:235", after := #[{ on := 6, ground := Ground.data }], guard := none }) rfl (fun K hK => ?_) (AllReadyH.nil)
          go_simp
          refine hK.out _ _ (SK.out _ (bk_alloc BW1.out _)) (fun hHeld => ?_)
          clear hK
          (try simp only [Act.put, List.setIfInBounds_toArray, List.set_cons_zero, List.set_cons_succ])
          refine wpAnyH_ready (rs := [8]) (by kernel_rfl) (by simp) ?_
          refine AllReadyH.cons (o := { dst := some 30, op := Op.call { callee := Callee.builtin Builtin.append, args := #[Operand.tmp 23, Operand.tmp 29], argTypes := #[33, 33] }, type := 33, pos := "ref.go:235", after := #[{ on := 1, ground := Ground.data }, { on := 7, ground := Ground.data }, { on := 6, ground := Ground.chain }], guard := none }) rfl (fun K hK => ?_) (AllReadyH.nil)
          (refine step_append_any _ rfl (.tmp 23) (.tmp 29) 33 rfl (w.heap.size + 2) 24 iT _ 8 112 Try.underlying33 hiT hT0 hT1 hT2 rfl (by decide) _ _ _ (by simp [Act.eval, Act.put]) OT.out (w1.heap.size + 1) _ 1 1 _ (by simp [Act.eval, Act.put]) (reads_row _ 24 u.arr 8 1 rfl) (cells_oneCell u) (by unfold maxLen; omega) (by omega) (by have := HZ.out; simp; omega) ?_; intro v1 w2 hown1 hg1 _)
          have hk1 := TW1.out.grown _ hg1
          have c4 := hk1.cellv 4 (v := .slice TA k tc') rfl
          have f4 := hk1.frozen 4
          have HN := Lib.hid hown1
          have HG := Lib.hid hg1
          obtain ⟨A', c', rfl, _, _, _⟩ := own_form hown1
          have BW2 : Below w.heap.size w w2 := TW1.out.grownBel _ hg1
          clear hown1 hg1 hk1
          refine hK.out _ _ (SK.out _ BW2) (fun hHeld => ?_)
          clear hK
          (try simp only [Act.put, List.setIfInBounds_toArray, List.set_cons_zero, List.set_cons_succ])
          refine wpAnyH_take (i := 9) (oi := { dst := some 31, op := Op.fieldAddr 36 (Operand.tmp 1) 2, type := 0, pos := "ref.go:235", after := #[{ on := 0, ground := Ground.phase }, { on := 1, ground := Ground.phase }, { on := 2, ground := Ground.phase }, { on := 3, ground := Ground.phase }, { on := 4, ground := Ground.phase }, { on := 5, ground := Ground.phase }, { on := 6, ground := Ground.phase }, { on := 7, ground := Ground.phase }, { on := 8, ground := Ground.phase }], guard := none }) (v := ?_) rfl (by kernel_rfl) (by kernel_rfl) (by kernel_rfl) (fun _ _ _ h => h) (Or.inl ⟨by rfl, ?_⟩) (by assumption) ?_
          rotate_left
          · intro w hSw
            (try dsimp only at hSw)
            go_simp
            (try with_reducible rfl)
          simp only [Act.put, List.setIfInBounds_toArray, List.set_cons_zero, List.set_cons_succ]
          refine wpAnyH_ready (rs := [10]) (by kernel_rfl) (by simp) ?_
          refine AllReadyH.cons (o := { dst := none, op := Op.store 33 (Operand.tmp 31) (Operand.tmp 30), type := 0, pos := "ref.go:235", after := #[{ on := 9, ground := Ground.data }, { on := 8, ground := Ground.data }, { on := 8, ground := Ground.chain }, { on := 0, ground := Ground.phase }, { on := 1, ground := Ground.phase }, { on := 2, ground := Ground.phase }, { on := 3, ground := Ground.phase }, { on := 4, ground := Ground.phase }, { on := 5, ground := Ground.phase }, { on := 6, ground := Ground.phase }, { on := 7, ground := Ground.phase }, { on := 8, ground := Ground.phase }], guard := none }) rfl (fun K hK => ?_) (AllReadyH.nil)
          go_simp
          refine hK.out _ _ (SK.out _ (BW2.setCell (Nat.le_refl _) _)) (fun hHeld => ?_)
          clear hK
          (try simp only [Act.put, List.setIfInBounds_toArray, List.set_cons_zero, List.set_cons_succ])
          refine wpAnyH_done (by kernel_rfl) ?_ _
          go_wp2
          go_roundw
          case rel =>
            refine ⟨k + 1, us ++ [u], A', c', by omega, by go_num, Lib.hid (TW1.out.app OU.out _ HG.out (by rw [HUL.out]; exact HN.out)), Lib.hid ?_⟩
            rw [List.map_append, HU.out, List.take_add_one, List.getElem?_map, HX.out]
            simp [HU1.out]
          case measure => simp [intOf]; omega
        · go_simp
          refine hK.out _ _ (SK.out _ (bk_alloc BW1.out _)) (fun hHeld => ?_)
          clear hK
          (try simp only [Act.put, List.setIfInBounds_toArray, List.set_cons_zero, List.set_cons_succ])
          refine wpAnyH_ready (rs := [1]) (by kernel_rfl) (by simp) ?_
          refine AllReadyH.cons (o := { dst := some 23, op := Op.load 33 (Operand.tmp 22), type := 33, pos := "ref.go:235", after := #[{ on := 0, ground := Ground.data }], guard := none }) rfl (fun K hK => ?_) (AllReadyH.nil)
          go_simp
          refine hK.out _ _ (SK.out _ (bk_alloc BW1.out _)) (fun hHeld => ?_)
          clear hK
          (try simp only [Act.put, List.setIfInBounds_toArray, List.set_cons_zero, List.set_cons_succ])
          refine wpAnyH_ready (rs := [8]) (by kernel_rfl) (by simp) ?_
          refine AllReadyH.cons (o := { dst := some 30, op := Op.call { callee := Callee.builtin Builtin.append, args := #[Operand.tmp 23, Operand.tmp 29], argTypes := #[33, 33] }, type := 33, pos := "ref.go:235", after := #[{ on := 1, ground := Ground.data }, { on := 7, ground := Ground.data }, { on := 6, ground := Ground.chain }], guard := none }) rfl (fun K hK => ?_) (AllReadyH.nil)
          (refine step_append_any _ rfl (.tmp 23) (.tmp 29) 33 rfl (w.heap.size + 2) 24 iT _ 8 112 Try.underlying33 hiT hT0 hT1 hT2 rfl (by decide) _ _ _ (by simp [Act.eval, Act.put]) OT.out (w1.heap.size + 1) _ 1 1 _ (by simp [Act.eval, Act.put]) (reads_row _ 24 u.arr 8 1 rfl) (cells_oneCell u) (by unfold maxLen; omega) (by omega) (by have := HZ.out; simp; omega) ?_; intro v1 w2 hown1 hg1 _)
          have hk1 := TW1.out.grown _ hg1
          have c4 := hk1.cellv 4 (v := .slice TA k tc') rfl
          have f4 := hk1.frozen 4
          have HN := Lib.hid hown1
          have HG := Lib.hid hg1
          obtain ⟨A', c', rfl, _, _, _⟩ := own_form hown1
          have BW2 : Below w.heap.size w w2 := TW1.out.grownBel _ hg1
          clear hown1 hg1 hk1
          refine hK.out _ _ (SK.out _ BW2) (fun hHeld => ?_)
          clear hK
          (try simp only [Act.put, List.setIfInBounds_toArray, List.set_cons_zero, List.set_cons_succ])
          refine wpAnyH_take (i := 9) (oi := { dst := some 31, op := Op.fieldAddr 36 (Operand.tmp 1) 2, type := 0, pos := "ref.go:235", after := #[{ on := 0, ground := Ground.phase }, { on := 1, ground := Ground.phase }, { on := 2, ground := Ground.phase }, { on := 3, ground := Ground.phase }, { on := 4, ground := Ground.phase }, { on := 5, ground := Ground.phase }, { on := 6, ground := Ground.phase }, { on := 7, ground := Ground.phase }, { on := 8, ground := Ground.phase }], guard := none }) (v := ?_) rfl (by kernel_rfl) (by kernel_rfl) (by kernel_rfl) (fun _ _ _ h => h) (Or.inl ⟨by rfl, ?_⟩) (by assumption) ?_
          rotate_left
          · intro w hSw
            (try dsimp only at hSw)
            go_simp
            (try with_reducible rfl)
          simp only [Act.put, List.setIfInBounds_toArray, List.set_cons_zero, List.set_cons_succ]
          refine wpAnyH_ready (rs := [10]) (by kernel_rfl) (by simp) ?_
          refine AllReadyH.cons (o := { dst := none, op := Op.store 33 (Operand.tmp 31) (Operand.tmp 30), type := 0, pos := "ref.go:235", after := #[{ on := 9, ground := Ground.data }, { on := 8, ground := Ground.data }, { on := 8, ground := Ground.chain }, { on := 0, ground := Ground.phase }, { on := 1, ground := Ground.phase }, { on := 2, ground := Ground.phase }, { on := 3, ground := Ground.phase }, { on := 4, ground := Ground.phase }, { on := 5, ground := Ground.phase }, { on := 6, ground := Ground.phase }, { on := 7, ground := Ground.phase }, { on := 8, ground := Ground.phase }], guard := none }) rfl (fun K hK => ?_) (AllReadyH.nil)
          go_simp
          refine hK.out _ _ (SK.out _ (BW2.setCell (Nat.le_refl _) _)) (fun hHeld => ?_)
          clear hK
          (try simp only [Act.put, List.setIfInBounds_toArray, List.set_cons_zero, List.set_cons_succ])
          refine wpAnyH_done (by kernel_rfl) ?_ _
          go_wp2
          go_roundw
          case rel =>
            refine ⟨k + 1, us ++ [u], A', c', by omega, by go_num, Lib.hid (TW1.out.app OU.out _ HG.out (by rw [HUL.out]; exact HN.out)), Lib.hid ?_⟩
            rw [List.map_append, HU.out, List.take_add_one, List.getElem?_map, HX.out]
            simp [HU1.out]
          case measure => simp [intOf]; omega
    · have hkn : k = c.tn := by omega
      subst hkn
      have UL : us.length = c.tn := by have := congrArg List.length HU.out; simp at this; rw [this, Nat.min_eq_left (by rw [CI.out.len]; exact hk)]
      have UT : us.map (·.tm) = c.ts.map (·.tm) := by rw [HU.out]; exact List.take_of_length_le (by simp [CI.out.len])
      have UL' := Lib.hid UL; have UT' := Lib.hid UT
      clear UL UT hlt
      have c0 := TW.out.kf.cellv 0 (v := .int .i64 c.a) rfl
      have c1 := TW.out.kf.cellv 1 (v := .int .i64 c.b) rfl
      have c2 := TW.out.kf.cellv 2 (v := .slice A1 c.fn cA1) rfl
      have c3 := TW.out.kf.cellv 3 (v := .slice A2 c.sn cA2) rfl
      have c4 := TW.out.kf.cellv 4 (v := .slice TA c.tn tc') rfl
      have c5 := TW.out.kf.cellv 5 (v := .int .u64 (c.st : Int)) rfl
      obtain ⟨z, hz, hk⟩ := TW.out.kg
      have KZ := Lib.hid hk
      have ZZ := Lib.hid hz
      clear hz hk
      have U2 : Hid ((Try.prog.info? 36).map (·.size) = some (Array.size (α := Value) #[.int .i64 c.a, .int .i64 c.b, .slice A1 c.fn cA1, .slice A2 c.sn cA2, .slice TA c.tn tc', .int .u64 (c.st : Int)])) := Lib.hid config_size
      have U3 : Hid (z.size = Array.size (α := Value) #[.int .i64 c.a, .int .i64 c.b, .slice A1 c.fn cA1, .slice A2 c.sn cA2, .slice TA c.tn tc', .int .u64 (c.st : Int)]) := Lib.hid ZZ.out
      have U4 : Hid (Array.all (α := Value) #[.int .i64 c.a, .int .i64 c.b, .slice A1 c.fn cA1, .slice A2 c.sn cA2, .slice TA c.tn tc', .int .u64 (c.st : Int)] (·.oneCell') = true) := Lib.hid (by simp [Value.oneCell'])
      go_wp2_with (refine wpList_store_row rfl 36 (.tmp 2) (.tmp 32) rfl (w.heap.size + 1) #[.int .i64 c.a, .int .i64 c.b, .slice A1 c.fn cA1, .slice A2 c.sn cA2, .slice TA c.tn tc', .int .u64 (c.st : Int)] rfl rfl 36 z KZ.out U2.out U3.out U4.out ?_)
      refine bodyPost_ret (v := .agg #[.int .i64 c.a, .int .i64 c.b, .slice A1 c.fn cA1, .slice A2 c.sn cA2, .slice TA c.tn tc', .int .u64 (c.st : Int)]) ?_ rfl ?_
      · exact results_cell_row rfl _ _ (w.heap.size + 1) 36 _ (0, 0) _ rfl (KZ.out.row _) Try.underlying36 rfl config_size
      · have HT := own_types TW.out.f TW.out.t (by decide)
        have f1 := CI.out.f1; have s1 := CI.out.s1; have t1 := CI.out.t1
        have off : ∀ {e : TypeId} {s : Nat} {v : Value} {n : Nat} {xs : List Value}, wr.ownsRow (w.heap.size + 2) e s v n xs → (wr.setRow (w.heap.size + 1) #[.int .i64 c.a, .int .i64 c.b, .slice A1 c.fn cA1, .slice A2 c.sn cA2, .slice TA c.tn tc', .int .u64 (c.st : Int)]).ownsRow w.heap.size e s v n xs :=
          fun h => own_more (own_row h (own_base h (by omega)) _) (by omega)
        refine ⟨⟨c.a, c.b, A1, c.fn, cA1, c.cl, A2, c.sn, cA2, c.sl, TA, c.tn, tc', us, c.st⟩, rfl, ?_, Lib.hid ⟨off TW.out.f, off TW.out.s, ?_, ?_, f1.2, s1.2, t1.2, CI.out.st, TW.out.sep⟩, below_row TW.out.bel (by omega) _⟩
        · show Cfg.mk _ _ _ _ _ _ = Cfg.mk _ _ _ _ _ _
          rw [UT'.out]
        · have := off TW.out.t
          rwa [UL'.out] at this
        · intro u hu
          have := TW.out.us u hu
          exact ⟨off this.h, off this.p, off this.d, this.h1, this.p1, this.d1⟩
end Go.Proofs.Ytcbghchciplfcaa
