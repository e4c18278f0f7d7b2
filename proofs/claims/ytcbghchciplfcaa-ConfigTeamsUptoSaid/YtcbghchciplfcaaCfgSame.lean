/-
  CFGSAME: slices.EqualFunc at teams, config.Same; the reference's Same of floors and of configs.
-/
import Derived.Test.YtcbghchciplfcaaCfgTeam
import Derived.Deep.MidRow
namespace Go.Proofs.Ytcbghchciplfcaa
set_option linter.unusedVariables false
set_option linter.unusedSimpArgs false
set_option maxRecDepth 100000
open Go.RowKit

/-- The cells of the k-th team of a row of teams. -/
theorem teams_at {w : World} {B n k : Nat} {A : Option Addr} {ts : List Tm} (h : Reads w B 8 A n (ts.flatMap Tm.cells)) (hk : k < n) :
    ∃ ad t, A = some ad ∧ ad.block < B ∧ ts[k]? = some t ∧ ∀ j u, t.cells[j]? = some u → w.cell? (ad.add (k * 8 + j)) = some u := by
  obtain ⟨ad, e, hb, hc⟩ := h.2 (by omega)
  have hl : k < ts.length := by have := h.1; rw [flat_cells_length] at this; omega
  exact ⟨ad, ts[k], e, hb, List.getElem?_eq_getElem hl, fun j u hu => hc _ u (flat_cells_at _ k _ (List.getElem?_eq_getElem hl) j u hu)⟩
theorem teams_len {w : World} {B n : Nat} {A : Option Addr} {ts : List Tm} (h : Reads w B 8 A n (ts.flatMap Tm.cells)) : ts.length = n := by have := h.1; rw [flat_cells_length] at this; omega
/-- the eight cells of a team, as the walk spells their places. -/
theorem team_spelled {w : World} {p : Addr} {t : Tm} (h : ∀ j v, t.cells[j]? = some v → w.cell? (p.add j) = some v) :
    w.cell? p = some (.slice t.hA t.hn t.hc) ∧ w.cell? ⟨p.block, p.off + 1, none⟩ = some (.slice t.pA t.pn t.pc) ∧ w.cell? ⟨p.block, p.off + 2, none⟩ = some (.slice t.dA t.dn t.dc) ∧
    w.cell? ⟨p.block, p.off + 3, none⟩ = some (.int .i64 t.tm.lo) ∧ w.cell? ⟨p.block, p.off + 4, none⟩ = some (.int .i64 t.tm.un) ∧ w.cell? ⟨p.block, p.off + 5, none⟩ = some (.int .i64 t.tm.qu) ∧
    w.cell? ⟨p.block, p.off + 6, none⟩ = some (.int .i64 t.tm.qt) ∧ w.cell? ⟨p.block, p.off + 7, none⟩ = some (.int .i64 t.tm.wi) :=
  ⟨h 0 _ rfl, h 1 _ rfl, h 2 _ rfl, h 3 _ rfl, h 4 _ rfl, h 5 _ rfl, h 6 _ rfl, h 7 _ rfl⟩
set_option maxHeartbeats 3200000 in
theorem eqTeams_any (A A' : Option Addr) (n n' c c' : Nat) (l l' : List Tm) (w : World) (hr : Reads w w.heap.size 8 A n (l.flatMap Tm.cells)) (hr' : Reads w w.heap.size 8 A' n' (l'.flatMap Tm.cells))
    (hi : ∀ t ∈ l, t.In w w.heap.size) (hi' : ∀ t ∈ l', t.In w w.heap.size) (hn : n ≤ 1256584717422) :
    Calls Try.prog 88 #[.slice A n c, .slice A' n' c', .func (.func 89) #[] #[]] w fun e w' => e = .returned (.bool (decide (l.map (·.tm) = l'.map (·.tm)))) ∧ Below w.heap.size w w' := by
  have hl := teams_len hr
  have hl' := teams_len hr'
  by_cases hq : n = n'
  · subst hq
    have e1 : ((n : Int) != (n : Int)) = false := by simp
    have HR := Lib.hid (fun W (hb : Below w.heap.size w W) => (hr.below hb).more hb.size); have HR' := Lib.hid (fun W (hb : Below w.heap.size w W) => (hr'.below hb).more hb.size); have HL := Lib.hid hl; have HL' := Lib.hid hl'
    have HI := Lib.hid (fun W (hb : Below w.heap.size w W) t ht => (hi t ht).go hb)
    have HI' := Lib.hid (fun W (hb : Below w.heap.size w W) t ht => (hi' t ht).go hb)
    obtain ⟨R, hR⟩ : ∃ R, R = decide (l.map (·.tm) = l'.map (·.tm)) := ⟨_, rfl⟩
    rw [← hR]
    have HRR := Lib.hid hR
    clear hr hr' hl hl' hR hi hi'
    go_enter Try.func88, Try.ntmps88
    go_wp2
    go_loopw [17] (fun i wr => ∃ k : Nat, k ≤ n ∧ i = .int .i64 (k : Int) ∧ Hid (Below w.heap.size w wr) ∧ Hid ((l.map (·.tm)).take k = (l'.map (·.tm)).take k))
      (fun i _ => n - (intOf i).toNat)
    case atStart => exact ⟨0, Nat.zero_le _, rfl, Lib.hid (Below.refl _ _), Lib.hid rfl⟩
    case round =>
      obtain ⟨k, hk, rfl, HB, hall⟩ := hrel
      by_cases hlt : k < n
      · obtain ⟨ad, t, rfl, had, hx, hct⟩ := teams_at (HR.out _ HB.out) hlt
        obtain ⟨ad', u, rfl, had', hx', hcu⟩ := teams_at (HR'.out _ HB.out) hlt
        have HT := Lib.hid (HI.out _ HB.out t (List.mem_of_getElem? hx))
        have HU := Lib.hid (HI'.out _ HB.out u (List.mem_of_getElem? hx'))
        have HX := Lib.hid hx; have HX' := Lib.hid hx'
        obtain ⟨c0, c1, c2, c3, c4, c5, c6, c7⟩ := team_spelled (p := ad.add (k * 8)) (fun j v hv => by rw [add_of_add]; exact hct j v hv)
        obtain ⟨d0, d1, d2, d3, d4, d5, d6, d7⟩ := team_spelled (p := ad'.add (k * 8)) (fun j v hv => by rw [add_of_add]; exact hcu j v hv)
        have b1 : (ad.add (k * 8)).block < wr.heap.size := by rw [block_of_add]; exact had
        have b2 : (ad'.add (k * 8)).block < wr.heap.size := by rw [block_of_add]; exact had'
        clear hx hx' hct hcu
        have k0 : (0 : Int) ≤ (k : Int) := by omega
        have k1 : (k : Int) < (n : Int) := by omega
        have S := Lib.hid (fun W (hb : Below wr.heap.size wr W) => sameTeam_any t u W (HT.out.go hb) (HU.out.go hb))
        by_cases he : t.tm = u.tm
        · rw [decide_eq_true he] at S
          have HE := Lib.hid he
          clear he had had'
          go_wp2_with fail
          refine (S.out _ (bk_alloc (bk_alloc (Below.refl _ _) _) _)).mono ?_
          rintro e x ⟨rfl, hb⟩
          replace HB := Lib.hid ((HB.out.trans ((bk_alloc (bk_alloc (Below.refl _ _) _) _).mono HB.out.size)).trans (hb.mono (by have := HB.out.size; simp; omega)))
          clear hb c0 c1 c2 c3 c4 c5 c6 c7 d0 d1 d2 d3 d4 d5 d6 d7 b1 b2
          go_wp2
          go_roundw
          case rel => exact ⟨k + 1, by omega, by go_num, HB, Lib.hid (by rw [List.take_add_one, List.take_add_one, hall.out, List.getElem?_map, List.getElem?_map, HX.out, HX'.out]; simp [HE.out])⟩
          case measure => simp [intOf]; omega
        · rw [decide_eq_false he] at S
          have HE := Lib.hid he
          clear he had had'
          go_wp2_with fail
          refine (S.out _ (bk_alloc (bk_alloc (Below.refl _ _) _) _)).mono ?_
          rintro e x ⟨rfl, hb⟩
          replace HB := Lib.hid ((HB.out.trans ((bk_alloc (bk_alloc (Below.refl _ _) _) _).mono HB.out.size)).trans (hb.mono (by have := HB.out.size; simp; omega)))
          clear hb c0 c1 c2 c3 c4 c5 c6 c7 d0 d1 d2 d3 d4 d5 d6 d7 b1 b2
          go_wp2
          go_ret
          exact ⟨by rw [HRR.out, decide_eq_false (fun h => HE.out (by have := congrArg (fun l : List Team => l[k]?) h; simpa [HX.out, HX'.out] using this))]; rfl, HB.out⟩
      · obtain rfl : k = n := by omega
        go_wp2
        go_ret
        exact ⟨by rw [HRR.out, decide_eq_true (by have := hall.out; rwa [List.take_of_length_le (by simp [HL.out]), List.take_of_length_le (by simp [HL'.out])] at this)]; rfl, HB.out⟩
  · have e1 : ((n : Int) != (n' : Int)) = true := by simp; omega
    rw [decide_eq_false (fun h => hq (by have := congrArg List.length h; simp at this; omega))]
    clear hq hr hr' hl hl' hi hi'
    go_enter Try.func88, Try.ntmps88
    go_wp2
    go_ret
    exact ⟨rfl, Below.refl _ _⟩

/-- two configs in variables of the call's own. -/
structure CBox2 (w X : World) (c d : Cm) : Prop where
  kf : Blk X w.heap.size 36 c.arr
  kg : Blk X (w.heap.size + 1) 36 d.arr
  bel : Below w.heap.size w X
theorem CBox2.next {w X X' : World} {c d : Cm} (h : CBox2 w X c d) (hb : Below X.heap.size X X') : CBox2 w X' c d := ⟨h.kf.below hb h.kf.lt, h.kg.below hb h.kg.lt, h.bel.trans (hb.mono h.bel.size)⟩
theorem cbox2 (w : World) (c d : Cm) : CBox2 w ((w.alloc (.cells #[.int .i64 c.a, .int .i64 c.b, .slice c.fA c.fn c.fc, .slice c.sA c.sn c.sc, .slice c.tA c.tn c.tc, .int .u64 (c.st : Int)] 36)).alloc (.cells #[.int .i64 d.a, .int .i64 d.b, .slice d.fA d.fn d.fc, .slice d.sA d.sn d.sc, .slice d.tA d.tn d.tc, .int .u64 (d.st : Int)] 36)) c d := by
  refine ⟨(Blk.new w 36 c.arr).alloc _, ?_, ((Below.refl _ _).alloc (Nat.le_refl _) _).alloc (by simp) _⟩
  have := Blk.new (w.alloc (.cells c.arr 36)) 36 d.arr
  simpa using this
theorem Cfg.eq_iff (c d : Cfg) : decide (c = d) = (decide (c.a = d.a) && decide (c.b = d.b) && decide (c.cl = d.cl) && decide (c.sl = d.sl) && decide (c.ts = d.ts) && decide (c.st = d.st)) := by
  cases c; cases d
  rw [Bool.eq_iff_iff]
  simp [and_assoc]
set_option maxHeartbeats 3200000 in
theorem cfgSame_any (c d : Cm) (w : World) (hc : c.In w w.heap.size) (hd : d.In w w.heap.size) :
    Calls Try.prog 45 #[c.val, d.val] w fun e w' => e = .returned (.bool (decide (c.cf = d.cf))) ∧ Below w.heap.size w w' := by
  have CB := Lib.hid (cbox2 w c d)
  have f1 := hc.f1; have s1 := hc.s1; have t1 := hc.t1
  have V1 := Lib.hid (fun W (hb : Below w.heap.size w W) => eqBytes_b c.fA d.fA c.fn d.fn c.fc d.fc c.cl d.cl W ((hc.f.below hb).more hb.size) ((hd.f.below hb).more hb.size) (by omega))
  have V2 := Lib.hid (fun W (hb : Below w.heap.size w W) => eqBytes_b c.sA d.sA c.sn d.sn c.sc d.sc c.sl d.sl W ((hc.s.below hb).more hb.size) ((hd.s.below hb).more hb.size) (by omega))
  have V3 := Lib.hid (fun W (hb : Below w.heap.size w W) => eqTeams_any c.tA d.tA c.tn d.tn c.tc d.tc c.ts d.ts W ((hc.t.below hb).more hb.size) ((hd.t.below hb).more hb.size) (fun t ht => (hc.ts t ht).go hb) (fun t ht => (hd.ts t ht).go hb) (by omega))
  have E := Lib.hid (show decide (c.cf = d.cf) = (decide (c.a = d.a) && decide (c.b = d.b) && decide (c.cl = d.cl) && decide (c.sl = d.sl) && decide (c.ts.map (·.tm) = d.ts.map (·.tm)) && decide (c.st = d.st)) from Cfg.eq_iff c.cf d.cf)
  obtain ⟨R, hR⟩ : ∃ R, R = decide (c.cf = d.cf) := ⟨_, rfl⟩
  rw [← hR] at E ⊢
  clear hR hc hd f1 s1 t1
  generalize decide (c.cl = d.cl) = b1 at V1 E
  generalize decide (c.sl = d.sl) = b2 at V2 E
  generalize decide (c.ts.map (·.tm) = d.ts.map (·.tm)) = b3 at V3 E
  have c0 := CB.out.kf.cellv 0 (v := .int .i64 c.a) rfl
  have c1 := CB.out.kf.cellv 1 (v := .int .i64 c.b) rfl
  have c2 := CB.out.kf.cellv 2 (v := .slice c.fA c.fn c.fc) rfl
  have c3 := CB.out.kf.cellv 3 (v := .slice c.sA c.sn c.sc) rfl
  have c4 := CB.out.kf.cellv 4 (v := .slice c.tA c.tn c.tc) rfl
  have c5 := CB.out.kf.cellv 5 (v := .int .u64 (c.st : Int)) rfl
  have d0 := CB.out.kg.cellv 0 (v := .int .i64 d.a) rfl
  have d1 := CB.out.kg.cellv 1 (v := .int .i64 d.b) rfl
  have d2 := CB.out.kg.cellv 2 (v := .slice d.fA d.fn d.fc) rfl
  have d3 := CB.out.kg.cellv 3 (v := .slice d.sA d.sn d.sc) rfl
  have d4 := CB.out.kg.cellv 4 (v := .slice d.tA d.tn d.tc) rfl
  have d5 := CB.out.kg.cellv 5 (v := .int .u64 (d.st : Int)) rfl
  by_cases ha : c.a = d.a
  · have ha' : (c.a == d.a) = true := by simpa using ha
    have E2 := E.out; simp only [ha, eq_self, decide_true, decide_false, Bool.true_and, Bool.and_true, Bool.false_and, Bool.and_false] at E2; replace E := Lib.hid E2; clear E2
    clear ha
    by_cases hb : c.b = d.b
    · have hb' : (c.b == d.b) = true := by simpa using hb
      have E2 := E.out; simp only [hb, eq_self, decide_true, decide_false, Bool.true_and, Bool.and_true, Bool.false_and, Bool.and_false] at E2; replace E := Lib.hid E2; clear E2
      clear hb
      cases b1
      · go_enter Try.func45, Try.ntmps45
        go_wp2_with fail
        refine (V1.out _ CB.out.bel).mono ?_
        rintro e x ⟨rfl, hb⟩
        replace CB := Lib.hid (CB.out.next hb)
        clear hb c0 c1 c2 c3 c4 c5 d0 d1 d2 d3 d4 d5
        have c0 := CB.out.kf.cellv 0 (v := .int .i64 c.a) rfl
        have c1 := CB.out.kf.cellv 1 (v := .int .i64 c.b) rfl
        have c2 := CB.out.kf.cellv 2 (v := .slice c.fA c.fn c.fc) rfl
        have c3 := CB.out.kf.cellv 3 (v := .slice c.sA c.sn c.sc) rfl
        have c4 := CB.out.kf.cellv 4 (v := .slice c.tA c.tn c.tc) rfl
        have c5 := CB.out.kf.cellv 5 (v := .int .u64 (c.st : Int)) rfl
        have d0 := CB.out.kg.cellv 0 (v := .int .i64 d.a) rfl
        have d1 := CB.out.kg.cellv 1 (v := .int .i64 d.b) rfl
        have d2 := CB.out.kg.cellv 2 (v := .slice d.fA d.fn d.fc) rfl
        have d3 := CB.out.kg.cellv 3 (v := .slice d.sA d.sn d.sc) rfl
        have d4 := CB.out.kg.cellv 4 (v := .slice d.tA d.tn d.tc) rfl
        have d5 := CB.out.kg.cellv 5 (v := .int .u64 (d.st : Int)) rfl
        go_wp2
        go_ret
        exact ⟨by rw [E.out]; simp [*], CB.out.bel⟩
      · cases b2
        · go_enter Try.func45, Try.ntmps45
          go_wp2_with fail
          refine (V1.out _ CB.out.bel).mono ?_
          rintro e x ⟨rfl, hb⟩
          replace CB := Lib.hid (CB.out.next hb)
          clear hb c0 c1 c2 c3 c4 c5 d0 d1 d2 d3 d4 d5
          have c0 := CB.out.kf.cellv 0 (v := .int .i64 c.a) rfl
          have c1 := CB.out.kf.cellv 1 (v := .int .i64 c.b) rfl
          have c2 := CB.out.kf.cellv 2 (v := .slice c.fA c.fn c.fc) rfl
          have c3 := CB.out.kf.cellv 3 (v := .slice c.sA c.sn c.sc) rfl
          have c4 := CB.out.kf.cellv 4 (v := .slice c.tA c.tn c.tc) rfl
          have c5 := CB.out.kf.cellv 5 (v := .int .u64 (c.st : Int)) rfl
          have d0 := CB.out.kg.cellv 0 (v := .int .i64 d.a) rfl
          have d1 := CB.out.kg.cellv 1 (v := .int .i64 d.b) rfl
          have d2 := CB.out.kg.cellv 2 (v := .slice d.fA d.fn d.fc) rfl
          have d3 := CB.out.kg.cellv 3 (v := .slice d.sA d.sn d.sc) rfl
          have d4 := CB.out.kg.cellv 4 (v := .slice d.tA d.tn d.tc) rfl
          have d5 := CB.out.kg.cellv 5 (v := .int .u64 (d.st : Int)) rfl
          go_wp2_with fail
          refine (V2.out _ CB.out.bel).mono ?_
          rintro e x ⟨rfl, hb⟩
          replace CB := Lib.hid (CB.out.next hb)
          clear hb c0 c1 c2 c3 c4 c5 d0 d1 d2 d3 d4 d5
          have c0 := CB.out.kf.cellv 0 (v := .int .i64 c.a) rfl
          have c1 := CB.out.kf.cellv 1 (v := .int .i64 c.b) rfl
          have c2 := CB.out.kf.cellv 2 (v := .slice c.fA c.fn c.fc) rfl
          have c3 := CB.out.kf.cellv 3 (v := .slice c.sA c.sn c.sc) rfl
          have c4 := CB.out.kf.cellv 4 (v := .slice c.tA c.tn c.tc) rfl
          have c5 := CB.out.kf.cellv 5 (v := .int .u64 (c.st : Int)) rfl
          have d0 := CB.out.kg.cellv 0 (v := .int .i64 d.a) rfl
          have d1 := CB.out.kg.cellv 1 (v := .int .i64 d.b) rfl
          have d2 := CB.out.kg.cellv 2 (v := .slice d.fA d.fn d.fc) rfl
          have d3 := CB.out.kg.cellv 3 (v := .slice d.sA d.sn d.sc) rfl
          have d4 := CB.out.kg.cellv 4 (v := .slice d.tA d.tn d.tc) rfl
          have d5 := CB.out.kg.cellv 5 (v := .int .u64 (d.st : Int)) rfl
          go_wp2
          go_ret
          exact ⟨by rw [E.out]; simp [*], CB.out.bel⟩
        · cases b3
          · go_enter Try.func45, Try.ntmps45
            go_wp2_with fail
            refine (V1.out _ CB.out.bel).mono ?_
            rintro e x ⟨rfl, hb⟩
            replace CB := Lib.hid (CB.out.next hb)
            clear hb c0 c1 c2 c3 c4 c5 d0 d1 d2 d3 d4 d5
            have c0 := CB.out.kf.cellv 0 (v := .int .i64 c.a) rfl
            have c1 := CB.out.kf.cellv 1 (v := .int .i64 c.b) rfl
            have c2 := CB.out.kf.cellv 2 (v := .slice c.fA c.fn c.fc) rfl
            have c3 := CB.out.kf.cellv 3 (v := .slice c.sA c.sn c.sc) rfl
            have c4 := CB.out.kf.cellv 4 (v := .slice c.tA c.tn c.tc) rfl
            have c5 := CB.out.kf.cellv 5 (v := .int .u64 (c.st : Int)) rfl
            have d0 := CB.out.kg.cellv 0 (v := .int .i64 d.a) rfl
            have d1 := CB.out.kg.cellv 1 (v := .int .i64 d.b) rfl
            have d2 := CB.out.kg.cellv 2 (v := .slice d.fA d.fn d.fc) rfl
            have d3 := CB.out.kg.cellv 3 (v := .slice d.sA d.sn d.sc) rfl
            have d4 := CB.out.kg.cellv 4 (v := .slice d.tA d.tn d.tc) rfl
            have d5 := CB.out.kg.cellv 5 (v := .int .u64 (d.st : Int)) rfl
            go_wp2_with fail
            refine (V2.out _ CB.out.bel).mono ?_
            rintro e x ⟨rfl, hb⟩
            replace CB := Lib.hid (CB.out.next hb)
            clear hb c0 c1 c2 c3 c4 c5 d0 d1 d2 d3 d4 d5
            have c0 := CB.out.kf.cellv 0 (v := .int .i64 c.a) rfl
            have c1 := CB.out.kf.cellv 1 (v := .int .i64 c.b) rfl
            have c2 := CB.out.kf.cellv 2 (v := .slice c.fA c.fn c.fc) rfl
            have c3 := CB.out.kf.cellv 3 (v := .slice c.sA c.sn c.sc) rfl
            have c4 := CB.out.kf.cellv 4 (v := .slice c.tA c.tn c.tc) rfl
            have c5 := CB.out.kf.cellv 5 (v := .int .u64 (c.st : Int)) rfl
            have d0 := CB.out.kg.cellv 0 (v := .int .i64 d.a) rfl
            have d1 := CB.out.kg.cellv 1 (v := .int .i64 d.b) rfl
            have d2 := CB.out.kg.cellv 2 (v := .slice d.fA d.fn d.fc) rfl
            have d3 := CB.out.kg.cellv 3 (v := .slice d.sA d.sn d.sc) rfl
            have d4 := CB.out.kg.cellv 4 (v := .slice d.tA d.tn d.tc) rfl
            have d5 := CB.out.kg.cellv 5 (v := .int .u64 (d.st : Int)) rfl
            go_wp2_with fail
            refine (V3.out _ CB.out.bel).mono ?_
            rintro e x ⟨rfl, hb⟩
            replace CB := Lib.hid (CB.out.next hb)
            clear hb c0 c1 c2 c3 c4 c5 d0 d1 d2 d3 d4 d5
            have c0 := CB.out.kf.cellv 0 (v := .int .i64 c.a) rfl
            have c1 := CB.out.kf.cellv 1 (v := .int .i64 c.b) rfl
            have c2 := CB.out.kf.cellv 2 (v := .slice c.fA c.fn c.fc) rfl
            have c3 := CB.out.kf.cellv 3 (v := .slice c.sA c.sn c.sc) rfl
            have c4 := CB.out.kf.cellv 4 (v := .slice c.tA c.tn c.tc) rfl
            have c5 := CB.out.kf.cellv 5 (v := .int .u64 (c.st : Int)) rfl
            have d0 := CB.out.kg.cellv 0 (v := .int .i64 d.a) rfl
            have d1 := CB.out.kg.cellv 1 (v := .int .i64 d.b) rfl
            have d2 := CB.out.kg.cellv 2 (v := .slice d.fA d.fn d.fc) rfl
            have d3 := CB.out.kg.cellv 3 (v := .slice d.sA d.sn d.sc) rfl
            have d4 := CB.out.kg.cellv 4 (v := .slice d.tA d.tn d.tc) rfl
            have d5 := CB.out.kg.cellv 5 (v := .int .u64 (d.st : Int)) rfl
            go_wp2
            go_ret
            exact ⟨by rw [E.out]; simp [*], CB.out.bel⟩
          · by_cases hs : c.st = d.st
            · have hs' : ((c.st : Int) == (d.st : Int)) = true := by simp only [beq_iff_eq]; omega
              have E2 := E.out; simp only [hs, eq_self, decide_true, decide_false, Bool.true_and, Bool.and_true, Bool.false_and, Bool.and_false] at E2; replace E := Lib.hid E2; clear E2
              clear hs
              go_enter Try.func45, Try.ntmps45
              go_wp2_with fail
              refine (V1.out _ CB.out.bel).mono ?_
              rintro e x ⟨rfl, hb⟩
              replace CB := Lib.hid (CB.out.next hb)
              clear hb c0 c1 c2 c3 c4 c5 d0 d1 d2 d3 d4 d5
              have c0 := CB.out.kf.cellv 0 (v := .int .i64 c.a) rfl
              have c1 := CB.out.kf.cellv 1 (v := .int .i64 c.b) rfl
              have c2 := CB.out.kf.cellv 2 (v := .slice c.fA c.fn c.fc) rfl
              have c3 := CB.out.kf.cellv 3 (v := .slice c.sA c.sn c.sc) rfl
              have c4 := CB.out.kf.cellv 4 (v := .slice c.tA c.tn c.tc) rfl
              have c5 := CB.out.kf.cellv 5 (v := .int .u64 (c.st : Int)) rfl
              have d0 := CB.out.kg.cellv 0 (v := .int .i64 d.a) rfl
              have d1 := CB.out.kg.cellv 1 (v := .int .i64 d.b) rfl
              have d2 := CB.out.kg.cellv 2 (v := .slice d.fA d.fn d.fc) rfl
              have d3 := CB.out.kg.cellv 3 (v := .slice d.sA d.sn d.sc) rfl
              have d4 := CB.out.kg.cellv 4 (v := .slice d.tA d.tn d.tc) rfl
              have d5 := CB.out.kg.cellv 5 (v := .int .u64 (d.st : Int)) rfl
              go_wp2_with fail
              refine (V2.out _ CB.out.bel).mono ?_
              rintro e x ⟨rfl, hb⟩
              replace CB := Lib.hid (CB.out.next hb)
              clear hb c0 c1 c2 c3 c4 c5 d0 d1 d2 d3 d4 d5
              have c0 := CB.out.kf.cellv 0 (v := .int .i64 c.a) rfl
              have c1 := CB.out.kf.cellv 1 (v := .int .i64 c.b) rfl
              have c2 := CB.out.kf.cellv 2 (v := .slice c.fA c.fn c.fc) rfl
              have c3 := CB.out.kf.cellv 3 (v := .slice c.sA c.sn c.sc) rfl
              have c4 := CB.out.kf.cellv 4 (v := .slice c.tA c.tn c.tc) rfl
              have c5 := CB.out.kf.cellv 5 (v := .int .u64 (c.st : Int)) rfl
              have d0 := CB.out.kg.cellv 0 (v := .int .i64 d.a) rfl
              have d1 := CB.out.kg.cellv 1 (v := .int .i64 d.b) rfl
              have d2 := CB.out.kg.cellv 2 (v := .slice d.fA d.fn d.fc) rfl
              have d3 := CB.out.kg.cellv 3 (v := .slice d.sA d.sn d.sc) rfl
              have d4 := CB.out.kg.cellv 4 (v := .slice d.tA d.tn d.tc) rfl
              have d5 := CB.out.kg.cellv 5 (v := .int .u64 (d.st : Int)) rfl
              go_wp2_with fail
              refine (V3.out _ CB.out.bel).mono ?_
              rintro e x ⟨rfl, hb⟩
              replace CB := Lib.hid (CB.out.next hb)
              clear hb c0 c1 c2 c3 c4 c5 d0 d1 d2 d3 d4 d5
              have c0 := CB.out.kf.cellv 0 (v := .int .i64 c.a) rfl
              have c1 := CB.out.kf.cellv 1 (v := .int .i64 c.b) rfl
              have c2 := CB.out.kf.cellv 2 (v := .slice c.fA c.fn c.fc) rfl
              have c3 := CB.out.kf.cellv 3 (v := .slice c.sA c.sn c.sc) rfl
              have c4 := CB.out.kf.cellv 4 (v := .slice c.tA c.tn c.tc) rfl
              have c5 := CB.out.kf.cellv 5 (v := .int .u64 (c.st : Int)) rfl
              have d0 := CB.out.kg.cellv 0 (v := .int .i64 d.a) rfl
              have d1 := CB.out.kg.cellv 1 (v := .int .i64 d.b) rfl
              have d2 := CB.out.kg.cellv 2 (v := .slice d.fA d.fn d.fc) rfl
              have d3 := CB.out.kg.cellv 3 (v := .slice d.sA d.sn d.sc) rfl
              have d4 := CB.out.kg.cellv 4 (v := .slice d.tA d.tn d.tc) rfl
              have d5 := CB.out.kg.cellv 5 (v := .int .u64 (d.st : Int)) rfl
              go_wp2
              go_ret
              exact ⟨by rw [E.out]; simp [*], CB.out.bel⟩
            · have hs' : ((c.st : Int) == (d.st : Int)) = false := by simp only [beq_eq_false_iff_ne, ne_eq]; omega
              have E2 := E.out; simp only [hs, eq_self, decide_true, decide_false, Bool.true_and, Bool.and_true, Bool.false_and, Bool.and_false] at E2; replace E := Lib.hid E2; clear E2
              clear hs
              go_enter Try.func45, Try.ntmps45
              go_wp2_with fail
              refine (V1.out _ CB.out.bel).mono ?_
              rintro e x ⟨rfl, hb⟩
              replace CB := Lib.hid (CB.out.next hb)
              clear hb c0 c1 c2 c3 c4 c5 d0 d1 d2 d3 d4 d5
              have c0 := CB.out.kf.cellv 0 (v := .int .i64 c.a) rfl
              have c1 := CB.out.kf.cellv 1 (v := .int .i64 c.b) rfl
              have c2 := CB.out.kf.cellv 2 (v := .slice c.fA c.fn c.fc) rfl
              have c3 := CB.out.kf.cellv 3 (v := .slice c.sA c.sn c.sc) rfl
              have c4 := CB.out.kf.cellv 4 (v := .slice c.tA c.tn c.tc) rfl
              have c5 := CB.out.kf.cellv 5 (v := .int .u64 (c.st : Int)) rfl
              have d0 := CB.out.kg.cellv 0 (v := .int .i64 d.a) rfl
              have d1 := CB.out.kg.cellv 1 (v := .int .i64 d.b) rfl
              have d2 := CB.out.kg.cellv 2 (v := .slice d.fA d.fn d.fc) rfl
              have d3 := CB.out.kg.cellv 3 (v := .slice d.sA d.sn d.sc) rfl
              have d4 := CB.out.kg.cellv 4 (v := .slice d.tA d.tn d.tc) rfl
              have d5 := CB.out.kg.cellv 5 (v := .int .u64 (d.st : Int)) rfl
              go_wp2_with fail
              refine (V2.out _ CB.out.bel).mono ?_
              rintro e x ⟨rfl, hb⟩
              replace CB := Lib.hid (CB.out.next hb)
              clear hb c0 c1 c2 c3 c4 c5 d0 d1 d2 d3 d4 d5
              have c0 := CB.out.kf.cellv 0 (v := .int .i64 c.a) rfl
              have c1 := CB.out.kf.cellv 1 (v := .int .i64 c.b) rfl
              have c2 := CB.out.kf.cellv 2 (v := .slice c.fA c.fn c.fc) rfl
              have c3 := CB.out.kf.cellv 3 (v := .slice c.sA c.sn c.sc) rfl
              have c4 := CB.out.kf.cellv 4 (v := .slice c.tA c.tn c.tc) rfl
              have c5 := CB.out.kf.cellv 5 (v := .int .u64 (c.st : Int)) rfl
              have d0 := CB.out.kg.cellv 0 (v := .int .i64 d.a) rfl
              have d1 := CB.out.kg.cellv 1 (v := .int .i64 d.b) rfl
              have d2 := CB.out.kg.cellv 2 (v := .slice d.fA d.fn d.fc) rfl
              have d3 := CB.out.kg.cellv 3 (v := .slice d.sA d.sn d.sc) rfl
              have d4 := CB.out.kg.cellv 4 (v := .slice d.tA d.tn d.tc) rfl
              have d5 := CB.out.kg.cellv 5 (v := .int .u64 (d.st : Int)) rfl
              go_wp2_with fail
              refine (V3.out _ CB.out.bel).mono ?_
              rintro e x ⟨rfl, hb⟩
              replace CB := Lib.hid (CB.out.next hb)
              clear hb c0 c1 c2 c3 c4 c5 d0 d1 d2 d3 d4 d5
              have c0 := CB.out.kf.cellv 0 (v := .int .i64 c.a) rfl
              have c1 := CB.out.kf.cellv 1 (v := .int .i64 c.b) rfl
              have c2 := CB.out.kf.cellv 2 (v := .slice c.fA c.fn c.fc) rfl
              have c3 := CB.out.kf.cellv 3 (v := .slice c.sA c.sn c.sc) rfl
              have c4 := CB.out.kf.cellv 4 (v := .slice c.tA c.tn c.tc) rfl
              have c5 := CB.out.kf.cellv 5 (v := .int .u64 (c.st : Int)) rfl
              have d0 := CB.out.kg.cellv 0 (v := .int .i64 d.a) rfl
              have d1 := CB.out.kg.cellv 1 (v := .int .i64 d.b) rfl
              have d2 := CB.out.kg.cellv 2 (v := .slice d.fA d.fn d.fc) rfl
              have d3 := CB.out.kg.cellv 3 (v := .slice d.sA d.sn d.sc) rfl
              have d4 := CB.out.kg.cellv 4 (v := .slice d.tA d.tn d.tc) rfl
              have d5 := CB.out.kg.cellv 5 (v := .int .u64 (d.st : Int)) rfl
              go_wp2
              go_ret
              exact ⟨by rw [E.out]; simp [*], CB.out.bel⟩
    · have hb' : (c.b == d.b) = false := by simpa using hb
      have E2 := E.out; simp only [hb, eq_self, decide_true, decide_false, Bool.true_and, Bool.and_true, Bool.false_and, Bool.and_false] at E2; replace E := Lib.hid E2; clear E2
      clear hb
      go_enter Try.func45, Try.ntmps45
      go_wp2
      go_ret
      exact ⟨by rw [E.out]; simp [*], CB.out.bel⟩
  · have ha' : (c.a == d.a) = false := by simpa using ha
    have E2 := E.out; simp only [ha, eq_self, decide_true, decide_false, Bool.true_and, Bool.and_true, Bool.false_and, Bool.and_false] at E2; replace E := Lib.hid E2; clear E2
    clear ha
    go_enter Try.func45, Try.ntmps45
    go_wp2
    go_ret
    exact ⟨by rw [E.out]; simp [*], CB.out.bel⟩

set_option maxHeartbeats 3200000 in
theorem floorSame_any (a b a' b' : Int) (A A' : Option Addr) (n n' c c' : Nat) (l l' : List UInt8) (w : World) (hr : Reads w w.heap.size 1 A n (bv l)) (hr' : Reads w w.heap.size 1 A' n' (bv l')) :
    Calls Try.prog 85 #[.agg #[.int .i64 a, .int .i64 b, .slice A n c], .agg #[.int .i64 a', .int .i64 b', .slice A' n' c']] w fun e w' => e = .returned (.bool (decide (a = a') && decide (b = b') && decide (l = l'))) ∧ Below w.heap.size w w' := by
  have hB : Below w.heap.size w ((w.alloc (.cells #[.int .i64 a, .int .i64 b, .slice A n c] 30)).alloc (.cells #[.int .i64 a', .int .i64 b', .slice A' n' c'] 30)) := ((Below.refl _ _).alloc (Nat.le_refl _) _).alloc (by simp) _
  have q1 := run_str (P := Try.prog) 28 5 9 Try.underlying28 Try.underlying5 Try.underlying9 (c := c) (hr.below hB)
  have q2 := run_str (P := Try.prog) 28 5 9 Try.underlying28 Try.underlying5 Try.underlying9 (c := c') (hr'.below hB)
  have H := Lib.hid hB
  clear hr hr' hB
  by_cases ha : a = a'
  · have ha' : (a == a') = true := by simpa using ha
    rw [decide_eq_true ha]
    clear ha
    by_cases hb : b = b'
    · have hb' : (b == b') = true := by simpa using hb
      rw [decide_eq_true hb]
      clear hb
      by_cases hl : l = l'
      · rw [decide_eq_true hl]
        subst hl
        go_enter Try.func85, Try.ntmps85
        go_wp2
        go_ret
        exact ⟨rfl, H.out⟩
      · rw [decide_eq_false hl]
        go_enter Try.func85, Try.ntmps85
        go_wp2
        go_ret
        exact ⟨by simpa using hl, H.out⟩
    · have hb' : (b == b') = false := by simpa using hb
      rw [decide_eq_false hb]
      clear hb
      go_enter Try.func85, Try.ntmps85
      go_wp2
      go_ret
      exact ⟨by simp, H.out⟩
  · have ha' : (a == a') = false := by simpa using ha
    rw [decide_eq_false ha]
    clear ha
    go_enter Try.func85, Try.ntmps85
    go_wp2
    go_ret
    exact ⟨by simp, H.out⟩
end Go.Proofs.Ytcbghchciplfcaa
