/-
  A function that defers a closure which recovers. Plain facts, no condition.
-/
import Derived.Test.YtggmkfagcjdifaaDoorAiT
import Derived.Recover
namespace Go.Proofs.YtggmkfagcjdifaaDoor.Ai
set_option linter.unusedSimpArgs false
set_option linter.unusedVariables false
set_option linter.unnecessarySimpa false
set_option linter.unusedSectionVars false
set_option linter.unusedVariables false

/-- What the closure is to do with what is recovered: then the results are read. -/
def dfrG (P : Program) (n0 : Nat) (rv : List RV) (o : AO) (s' : Store) (qG : RQ) (t1 t2 : Nat) (ys : List AV) (v : AV) (e : Env) (s : Store) : Prop :=
  rwp P s.nx qG (fun x _ s3 => (x = .normal ∨ x = .ret) ∧ ∃ e', Wk n0 e s3 e' s' ∧ rvsC e' s' rv ∧ o = .ret (tupV (rv.map (rvV e' s')))) (put (put (argE 0 ys) (some t1) v) (some t2) v) s
def dfrQ (P : Program) (n0 : Nat) (rv : List RV) (o : AO) (s' : Store) (qG : RQ) (t1 t2 : Nat) (ys : List AV) : AX → Env → Store → Prop
  | .normal, e, s | .ret, e, s => dfrG P n0 rv o s' qG t1 t2 ys .nili e s
  | .pan v, e, s => dfrG P n0 rv o s' qG t1 t2 ys v e s
  | _, _, _ => False

structure DForm (P : Program) (f : FuncId) (q0 : List RP) (qB qG : RQ) (rv : List RV) (g : FuncId) (caps : List Opd) (td t1 t2 : Nat) (fn gn : Func) (i0 i1 j0 : Nat) (ops0 : Array Oper) (om od orc oas : Oper) (cB cG : Code) (capsO : Array Operand) (ats atr : Array TypeId) : Prop where
  hf : P.funcs[f]? = some fn
  hb : fn.body = some (.seq (.region i0 ops0 false) (.seq (.region i1 #[om, od] false) cB))
  hname : (fn.name == "runtime.NumGoroutine") = false
  h0 : mapO (lite2 P fn.ntmps ops0) ops0.toList = some q0
  hB : liteC P fn.ntmps cB = some qB
  hres : mapO (resOf P) fn.results.toList = some rv
  hom : om.op = .makeFunc (.func g) #[] capsO
  hmg : om.guard = none
  hmd : om.dst = some td
  htd : td < fn.ntmps
  hcaps : mapO opd capsO.toList = some caps
  hod : od.op = .defer ⟨.value (.tmp td), #[], ats⟩
  hdg : od.guard = none
  hdd : od.dst = none
  hg : P.funcs[g]? = some gn
  hgb : gn.body = some (.seq (.region j0 #[orc, oas] false) cG)
  hgn : (gn.name == "runtime.NumGoroutine") = false
  hG : liteC P gn.ntmps cG = some qG
  hgr : gn.results = #[]
  hrc : orc.op = .call ⟨.builtin .recover, #[], atr⟩
  hrg : orc.guard = none
  hrd : orc.dst = some t1
  ht1 : t1 < gn.ntmps
  has : oas.op = .assign (.tmp t1)
  hag : oas.guard = none
  had : oas.dst = some t2
  ht2 : t2 < gn.ntmps
  hcl : caps.length ≤ gn.ntmps

section
variable {P : Program} {f : FuncId} {q0 : List RP} {qB qG : RQ} {rv : List RV} {g : FuncId} {caps : List Opd} {td t1 t2 : Nat} {fn gn : Func} {i0 i1 j0 : Nat} {ops0 : Array Oper} {om od orc oas : Oper} {cB cG : Code} {capsO : Array Operand} {ats atr : Array TypeId}

/-- The frame's mode, and what recover gives there. -/
inductive Rec : FrameMode → FrameMode → AV → Value → Prop
  | ret : Rec .returning .returning .nili .nilIface
  | pan (v : AV) (u : Value) : Rec (.panicking [{ v := u, recovered := false }]) (.panicking [{ v := u, recovered := true }]) v u

theorem wpOpsS_rec {ops : Array Oper} {Q : Exit → Act → List Frame → World → Prop} {i : Nat} {rest : List Nat} {a : Act} {cs : List Frame} {w : World} {o : Oper} (ho : ops[i]? = some o) (hg : o.guard = none) (hx : (execOp a.eval o).run P w = .ok .recover w)
    (h : match recoverD cs with | some (v, cs') => wpOpsS P ops Q rest (a.put o.dst v) cs' w | none => wpOpsS P ops Q rest (a.put o.dst .nilIface) cs w) : wpOpsS P ops Q (i :: rest) a cs w := by
  simp only [wpOpsS, ho, Region.wanted, hg, if_true, hx]
  exact h

theorem dfr_call (hm : P.follows .mixedOrders = true) (d : DForm P f q0 qB qG rv g caps td t1 t2 fn gn i0 i1 j0 ops0 om od orc oas cB cG capsO ats atr) {u u' : FrameMode} {v : AV} {uv : Value} (hr : Rec u u' v uv)
    {F : Nat → Prop} {w : World} {p : Place} {s : Store} {ys : List AV} {us : Array Value} {Q : AX → Env → Store → Prop} (hs : SRel F w p (fun i => i < s.nx) s.rows) (hy : CellsOK F w p (fun i => i < s.nx) ys us) (hyl : ys.length ≤ gn.ntmps)
    (hv : VR F w p (fun i => i < s.nx) v uv) (h : rwp P s.nx qG Q (put (put (argE 0 ys) (some t1) v) (some t2) v) s) (hQ : ∀ x e s, Q x e s → x = .normal ∨ x = .ret) :
    CallsD P g us u w fun e u2 w' => e = .returned (.tuple #[]) ∧ u2 = u' ∧ ∃ x F' p' e3 s3, Q x e3 s3 ∧ SRel F' w' p' (fun i => i < s3.nx) s3.rows ∧ Evo s.nx F w p s F' w' p' s3 := by
  refine callsD_of_wpS d.hg d.hgb fun c₀ cs hc₀ => wpS_seq (wpS_region ?_)
  have hcr : (execOp (Act.eval { tmps := us ++ Array.replicate (gn.ntmps - us.size) undef, defers := [] }) orc).run P w = .ok .recover w := by
    simp only [execOp, d.hrc, resolve, Sem.run_bind, Sem.run_pure, Result.andThen_ok, invoke, builtin]
  have hrange : List.range (#[orc, oas] : Array Oper).size = [0, 1] := rfl
  rw [hrange]
  have hy0 : ERel gn.ntmps F w p (fun i => i < s.nx) (argE 0 ys) (us ++ Array.replicate (gn.ntmps - us.size) undef) := by
    refine ⟨by simp [hy.1]; omega, fun t => ?_⟩
    rw [get_argE, if_pos (Nat.zero_le _), Nat.sub_zero]
    cases hx : ys[t]? with
    | none => exact .any _
    | some x =>
      have htl : t < us.size := by rw [hy.1]; exact (List.getElem?_eq_some_iff.1 hx).1
      have := hy.2 t x hx
      simp only
      rw [Array.getD_eq_getD_getElem?, Array.getElem?_append_left htl, ← Array.getD_eq_getD_getElem?]
      exact this
  let a0 : Act := { tmps := us ++ Array.replicate (gn.ntmps - us.size) undef, defers := [] }
  have e1 : ERel gn.ntmps F w p (fun i => i < s.nx) (put (argE 0 ys) (some t1) v) (a0.put (some t1) uv).tmps := ERel.put (a := a0) hy0 (fun x hx => by cases hx; exact d.ht1) (fun _ _ h => h) hv
  have e2 : ERel gn.ntmps F w p (fun i => i < s.nx) (put (put (argE 0 ys) (some t1) v) (some t2) v) ((a0.put (some t1) uv).put (some t2) uv).tmps := ERel.put (a := a0.put (some t1) uv) e1 (fun x hx => by cases hx; exact d.ht2) (fun _ _ h => h) hv
  have hasg : ∀ w', (execOp (a0.put (some t1) uv).eval oas).run P w' = .ok (.value uv) w' := by
    intro w'
    have : (a0.put (some t1) uv).eval (.tmp t1) = uv := by
      show (a0.put (some t1) uv).tmps.getD t1 undef = uv
      rw [getD_put' a0 (some t1) uv t1 (fun x hx => by cases hx; rw [hy0.size]; exact d.ht1), if_pos rfl]
    simp only [execOp, d.has, this, Sem.run_pure]
  have cont : cG.wpS P (bodyPostS P gn c₀ cs fun e u2 w' => e = .returned (.tuple #[]) ∧ u2 = u' ∧ ∃ x F' p' e3 s3, Q x e3 s3 ∧ SRel F' w' p' (fun i => i < s3.nx) s3.rows ∧ Evo s.nx F w p s F' w' p' s3)
      ((a0.put (some t1) uv).put (some t2) uv) ({ c₀ with mode := u' } :: cs) w := by
    refine wpS_of_wp ((wpIn_wide (n := 0)).1 (Code.wpIn_mono ?_ (rwp_sound hm cG qG Q _ s d.hG h F w p _ (Nat.le_refl _) ⟨e2, hs⟩)))
    rintro x a w' ⟨F', p', e', s', x', hx, hq, hrel, hev, hds⟩
    have hres : (results gn a.tmps).run P w' = .ok (.tuple #[]) w' := by simp [results, d.hgr]
    rcases hQ _ _ _ hq with rfl | rfl <;> cases hx <;> exact ⟨hds, u', rfl, _, hres, rfl, rfl, _, F', p', e', s', hq, hrel.sto, hev⟩
  have step2 : wpOpsS P #[orc, oas] (Exit.thenS (cG.wpS P (bodyPostS P gn c₀ cs fun e u2 w' => e = .returned (.tuple #[]) ∧ u2 = u' ∧ ∃ x F' p' e3 s3, Q x e3 s3 ∧ SRel F' w' p' (fun i => i < s3.nx) s3.rows ∧ Evo s.nx F w p s F' w' p' s3))
      (bodyPostS P gn c₀ cs fun e u2 w' => e = .returned (.tuple #[]) ∧ u2 = u' ∧ ∃ x F' p' e3 s3, Q x e3 s3 ∧ SRel F' w' p' (fun i => i < s3.nx) s3.rows ∧ Evo s.nx F w p s F' w' p' s3)) [1] (a0.put (some t1) uv) ({ c₀ with mode := u' } :: cs) w := by
    simp only [wpOpsS, List.getElem?_toArray, List.getElem?_cons_succ, List.getElem?_cons_zero, Region.wanted, d.hag, if_true, hasg, Oper.upon, Exit.thenS, d.had]
    exact cont
  refine wpOpsS_rec (o := orc) (by simp) d.hrg hcr ?_
  rw [d.hrd]
  cases hr with
  | ret =>
    have : recoverD (c₀ :: cs) = none := by simp [recoverD, hc₀]
    rw [this]
    have hc : ({ c₀ with mode := .returning } : Frame) = c₀ := by rw [← hc₀]
    rw [hc] at step2
    exact step2
  | pan v u =>
    have : recoverD (c₀ :: cs) = some (uv, { c₀ with mode := .panicking [{ v := uv, recovered := true }] } :: cs) := by simp [recoverD, hc₀]
    rw [this]
    exact step2

theorem scall_defer (hm : P.follows .mixedOrders = true) (d : DForm P f q0 qB qG rv g caps td t1 t2 fn gn i0 i1 j0 ops0 om od orc oas cB cG capsO ats atr) {xs : List AV} {s s' : Store} {o : AO} (hN : xs.length ≤ fn.ntmps)
    (h : seqR P q0 (fun e s1 => allLv e caps ∧ rwp P (s1.nx + 1) qB (dfrQ P s.nx rv o s' qG t1 t2 (caps.map (sv e))) (put e (some td) (.fn (.func g) [] (caps.map (sv e)))) (next s1 none)) (fun _ _ _ => False) (argE 0 xs) s) : SCall P f xs s o s' := by
  refine ⟨fun args w => ?_, fun F w p args hs hargs => ?_⟩
  · have hname' : ¬ (fn.name = "runtime.NumGoroutine") := by simpa using d.hname
    simp [callFunc, d.hf, hname', d.hb]
  refine calls_of_wp_defers d.hf d.hb ((wpIn_wide (n := 0)).1 ?_)
  have hsz : args.size = xs.length := hargs.1
  have hr0 : Rel fn.ntmps F w p (argE 0 xs) s { tmps := args ++ Array.replicate (fn.ntmps - args.size) undef, defers := [] } := by
    refine ⟨⟨by simp; omega, fun t => ?_⟩, hs⟩
    rw [get_argE, if_pos (Nat.zero_le _), Nat.sub_zero]
    cases hx : xs[t]? with
    | none => exact .any _
    | some x =>
      have htl : t < args.size := by rw [hsz]; exact (List.getElem?_eq_some_iff.1 hx).1
      have := hargs.2 t x hx
      simp only
      rw [Array.getD_eq_getD_getElem?, Array.getElem?_append_left htl, ← Array.getD_eq_getD_getElem?]
      exact this
  let Q0 : AX → Env → Store → Prop := fun x e s1 => match x with
    | .normal => allLv e caps ∧ rwp P (s1.nx + 1) qB (dfrQ P s.nx rv o s' qG t1 t2 (caps.map (sv e))) (put e (some td) (.fn (.func g) [] (caps.map (sv e)))) (next s1 none)
    | _ => False
  refine wpIn_seq (Code.wpIn_mono ?_ (awp_reg (n0 := s.nx) (Q := Q0) (id := i0) d.h0 h F w p _ (Nat.le_refl _) hr0))
  rintro x a1 w1 ⟨F1, p1, e1, s1, x1, hx, hq, hrel, hev, hds⟩
  cases hx <;> try exact hq.elim
  obtain ⟨hlc, hq⟩ := hq
  refine wpIn_seq (wpIn_region_list ?_)
  have hl : lite1 P om.op = some (.mkf g [] caps) := by
    rw [d.hom]
    simp only [lite1, liteE, liteOp, bind, d.hcaps]
    rfl
  simp only [wpListIn, Region.wanted, d.hmg, if_true]
  have ho : ∀ x ∈ om.op.operands, ∀ y, opd x = some y → VR F1 w1 p1 (fun i => i < s1.nx) (ev e1 y) (a1.eval x) := fun x _ y hy => vr_opd hrel.sto.old hrel.env hy
  refine (ach_sound (im := false) (k := s1.nx) (m := 1) (new := []) (v := .fn (.func g) [] (caps.map (sv e1))) hrel.sto (fun _ => Nat.lt_irrefl _) hl (fun _ => rfl) ho ⟨⟨trivial, hlc⟩, rfl, rfl, rfl⟩).wpIn (fun c hc => by rw [d.hom] at hc; cases hc) ?_
  rintro u w2 ⟨F2, p2, hp⟩
  obtain ⟨g1, g2⟩ := rel_prm (a := a1) (e := e1) (dst := om.dst) hrel hev.nx (fun t ht => by rw [d.hmd] at ht; cases ht; exact d.htd) hp
  have hval := hp.val
  generalize hu : u = u0 at hval
  cases hval with
  | fn _ _ _ us0 us h1 h2 h3 h4 =>
    subst hu
    obtain rfl : us0 = #[] := Array.eq_empty_of_size_eq_zero h1
    rw [d.hmd] at g1 ⊢
    simp only [d.hdg]
    have hev2 : (a1.put (some td) (.func (.func g) #[] us)).eval (.tmp td) = .func (.func g) #[] us := by
      show (a1.put (some td) _).tmps.getD td undef = _
      rw [getD_put' a1 (some td) _ td (fun x hx => by cases hx; rw [hrel.env.size]; exact d.htd), if_pos rfl]
    refine ⟨fun _ _ => trivial, ?_⟩
    have hex : (od.semAt Fence.wide.round (a1.put (some td) (.func (.func g) #[] us)).eval).run P w2 = .ok (.defer { target := .fn (.func g) us, args := #[] }) w2 := by
      show (execOp (a1.put (some td) (.func (.func g) #[] us)).eval od).run P w2 = _
      simp [execOp, d.hod, resolve, hev2, Deferred.ofValue]
    rw [hex]
    let dd : Deferred := { target := .fn (.func g) us, args := #[] }
    let a3 : Act := { (a1.put (some td) (.func (.func g) #[] us)) with defers := [dd] }
    have hds1 : (a1.put (some td) (.func (.func g) #[] us)).defers = [] := hds
    simp only [Oper.uponIn_defer, d.hdd, Act.put, Exit.then]
    have hrel3 : Rel fn.ntmps F2 w2 p2 (put e1 (some td) (.fn (.func g) [] (caps.map (sv e1)))) (next s1 none) a3 := ⟨⟨g1.env.size, g1.env.val⟩, g1.sto⟩
    have ha3 : ({ tmps := (a1.put (some td) (.func (.func g) #[] us)).tmps, defers := { target := .fn (.func g) us, args := #[] } :: (a1.put (some td) (.func (.func g) #[] us)).defers } : Act) = a3 := by rw [hds1]
    have main : cB.wpIn (WI none) 0 P (bodyPostD P fn fun e w' => ∃ F' p', OutR F' w' p' (fun i => i < s'.nx) o e ∧ SRel F' w' p' (fun i => i < s'.nx) s'.rows ∧ Evo s.nx F w p s F' w' p' s') a3 w2 := by
      refine Code.wpIn_mono ?_ (rwp_sound hm cB qB _ _ _ d.hB hq F2 w2 p2 a3 (Nat.le_refl _) hrel3)
      rintro x a4 w4 ⟨F4, p4, e4, s4, x4, hx4, hq4, hrel4, hev4, hds4⟩
      have hy4 : CellsOK F4 w4 p4 (fun i => i < s4.nx) (caps.map (sv e1)) us := by
        refine ⟨h2, fun j v hj => ?_⟩
        have h5 : VR F2 w2 p2 (fun i => i < s1.nx + 1) v (us.getD j undef) := vr_D (h4 j v hj) (fun i hi => by omega)
        exact h5.evo (n0 := s1.nx + 1) (s := next s1 none) g1.sto hev4 (fun i hi => hi) (fun i hi => Nat.lt_of_lt_of_le hi hev4.nx)
      have hinv : ∀ w', (invoke (.fn (.func g) us) #[]).run P w' = .ok (.enter g us) w' := by
        intro w'
        have hn' : ¬ (gn.name = "runtime.NumGoroutine") := by simpa using d.hgn
        simp [invoke, callFunc, d.hg, hn', d.hgb]
      have fin : ∀ {u u' : FrameMode} {v : AV} {uv : Value}, Rec u u' v uv → u ≠ .run → settle u' = .returning → VR F4 w4 p4 (fun i => i < s4.nx) v uv → dfrG P s.nx rv o s' qG t1 t2 (caps.map (sv e1)) v e4 s4 →
          Leaves P fn a4.tmps (fun e w' => ∃ F' p', OutR F' w' p' (fun i => i < s'.nx) o e ∧ SRel F' w' p' (fun i => i < s'.nx) s'.rows ∧ Evo s.nx F w p s F' w' p' s') [dd] u w4 := by
        intro u u' v uv hrec hu hset hv hG
        refine leaves_cons hu (hinv w4) ?_
        refine CallsD.mono (dfr_call hm d hrec hrel4.sto hy4 (by simpa using d.hcl) hv hG (fun x e s h => h.1)) ?_
        rintro en u2 w5 ⟨rfl, rfl, x5, F5, p5, e5, s5, ⟨_, e6, hwk, hrc, rfl⟩, hs5, hev5⟩
        have hrel5 : Rel fn.ntmps F5 w5 p5 e4 s5 a4 := rel_called hrel4 hs5 hev5
        have hall : Evo s.nx F w p s F5 w5 p5 s5 := ((hev.trans g2).trans (hev4.weaken (Nat.le_trans hev.nx (Nat.le_succ _)))).trans (hev5.weaken (Nat.le_trans (Nat.le_trans hev.nx (Nat.le_succ _)) hev4.nx))
        obtain ⟨F6, p6, hrel6, hev6⟩ := hwk _ F5 w5 p5 a4 hall.nx hrel5
        obtain ⟨vs, k1, k2, k3⟩ := rvs_sound hrel6 _ _ d.hres hrc
        show Leaves P fn a4.tmps _ [] (settle u2) w5
        rw [hset]
        exact ⟨_, run_results k1, F6, p6, .ret _ _ (tup_sound (by simp [k2]) k3), hrel6.sto, hall.trans hev6⟩
      cases hx4 with
      | normal => simp only [bodyPostD]; rw [hds4]; exact fin .ret (by simp) rfl .nili hq4
      | ret => simp only [bodyPostD]; rw [hds4]; exact fin .ret (by simp) rfl .nili hq4
      | exit id => exact hq4.elim
      | pan v u hv => simp only [bodyPostD]; rw [hds4]; exact fin (.pan v u) (by simp) rfl hv hq4
    have hd0 : a1.defers = [] := hds
    rw [hd0]
    exact main
end
end Go.Proofs.YtggmkfagcjdifaaDoor.Ai
