/-
  Code, its types looked up; calls of functions. Plain facts, no condition.
-/
import Derived.Test.YtffiicopifmmfaaAiP
namespace Go.Proofs.Ytffiicopifmmfaa.Ai
set_option linter.unusedSimpArgs false
set_option linter.unusedVariables false
set_option linter.unnecessarySimpa false
set_option linter.unusedSectionVars false
set_option linter.unusedVariables false

inductive RQ where
  | skip
  | ret
  | exit (id : Nat)
  | seq (a b : RQ)
  | cond (c : Opd) (a b : RQ)
  | block (id : Nat) (b : RQ)
  | loop (b : RQ)
  | reg (ops : List RP)
  | drw (ops : List (Bool × RP)) (tail : List RP)
  deriving Inhabited

def isEff (o : Oper) : Bool :=
  match o.op with
  | .store _ _ _ => true
  | .call ⟨.builtin .append, _, _⟩ => true
  | _ => false
def isApp (o : Oper) : Bool :=
  match o.op with
  | .call ⟨.builtin .append, _, _⟩ => true
  | _ => false
def headN0 (ops : Array Oper) : Nat := bif drawOK ops (ops.toList.findIdx isEff) then ops.toList.findIdx isEff else ops.toList.findIdx isApp
/-- A call that stands last, behind all else, comes in order (so it may panic, and write). -/
def lastCal (ops : Array Oper) : Bool := match ops[ops.size - 1]? with
  | some o => match o.op with
    | .call ⟨.value _, _, _⟩ => true
    | _ => false
  | none => false
def headN (ops : Array Oper) : Nat := bif headN0 ops == ops.size && (lastCal ops && drawOK ops (ops.size - 1)) then ops.size - 1 else headN0 ops

def liteC (P : Program) (N : Nat) : Code → Option RQ
  | .skip => some .skip
  | .ret => some .ret
  | .exit id => some (.exit id)
  | .seq a b => match liteC P N a, liteC P N b with
    | some a, some b => some (.seq a b)
    | _, _ => none
  | .cond c a b => match opd c, liteC P N a, liteC P N b with
    | some c, some a, some b => some (.cond c a b)
    | _, _, _ => none
  | .block id b => (liteC P N b).map (.block id)
  | .loop b => (liteC P N b).map .loop
  | .region _ ops false => (mapO (lite2 P N ops) ops.toList).map .reg
  | .region _ ops true => bif drawOK ops (headN ops) then
      match mapO (lite2 P N ops) (ops.toList.take (headN ops)), mapO (lite2 P N ops) (ops.toList.drop (headN ops)) with
      | some a, some b => some (.drw (((List.range (headN ops)).map (flB ops (headN ops))).zip a) b)
      | _, _ => none
    else none
  | _ => none

def condR (e : Env) (c : Opd) (A B : Prop) : Prop :=
  lv e c ∧ match sv e c with
  | .bool t => (t = true → A) ∧ (t = false → B)
  | _ => False

def loopR (n0 : Nat) (R : (AX → Env → Store → Prop) → Env → Store → Prop) (Q : AX → Env → Store → Prop) (e : Env) (s : Store) : Prop :=
  ∃ (I : Env → Store → Prop) (μ : Env → Store → Nat), (∃ e' s', Wk n0 e s e' s' ∧ I e' s') ∧ ∀ e s, I e s → R (thn (fun e' s' => ∃ e'' s'', Wk n0 e' s' e'' s'' ∧ I e'' s'' ∧ μ e'' s'' < μ e s) Q) e s

def rwp (P : Program) (n0 : Nat) : RQ → (AX → Env → Store → Prop) → Env → Store → Prop
  | .skip, Q, e, s => Q .normal e s
  | .ret, Q, e, s => Q .ret e s
  | .exit id, Q, e, s => Q (.exit id) e s
  | .seq a b, Q, e, s => rwp P n0 a (thn (rwp P n0 b Q) Q) e s
  | .cond c a b, Q, e, s => condR e c (rwp P n0 a Q e s) (rwp P n0 b Q e s)
  | .block id b, Q, e, s => rwp P n0 b (blk id Q) e s
  | .loop b, Q, e, s => loopR n0 (rwp P n0 b) Q e s
  | .reg ops, Q, e, s => seqR P ops (fun e s => Q .normal e s) (fun v e s => Q (.pan v) e s) e s
  | .drw ops tail, Q, e, s => dR P s.rows s.nx ops s.nx s.rows [] [] (fun e s => seqR P tail (fun e s => Q .normal e s) (fun v e s => Q (.pan v) e s) e s) e

section
variable {P : Program} {N n0 : Nat}

theorem awp_cond {c : Operand} {c' : Opd} {x y : Code} {Q : AX → Env → Store → Prop} {e : Env} {s : Store} (hc : opd c = some c') (h : condR e c' (awp P N n0 none x Q e s) (awp P N n0 none y Q e s)) : awp P N n0 none (.cond c x y) Q e s := by
  intro F w p a hn hr
  obtain ⟨h0, h1⟩ := h
  have hv := (vr_opd hr.env hc).sv h0
  split at h1
  · rename_i t ht
    rw [ht] at hv
    have hb := vr_bool hv
    cases t with
    | true => exact wpIn_cond_true hb (h1.1 rfl F w p a hn hr)
    | false => exact wpIn_cond_false hb (h1.2 rfl F w p a hn hr)
  · exact h1.elim

theorem rwp_sound (hm : P.follows .mixedOrders = true) : ∀ (c : Code) (r : RQ) (Q : AX → Env → Store → Prop) (e : Env) (s : Store), liteC P N c = some r → rwp P n0 r Q e s → awp P N n0 none c Q e s
  | .skip, r, Q, e, s, hl, h => by simp only [liteC, Option.some.injEq] at hl; subst hl; exact awp_skip h
  | .ret, r, Q, e, s, hl, h => by simp only [liteC, Option.some.injEq] at hl; subst hl; exact awp_ret h
  | .exit id, r, Q, e, s, hl, h => by simp only [liteC, Option.some.injEq] at hl; subst hl; exact awp_exit h
  | .seq a b, r, Q, e, s, hl, h => by
    simp only [liteC] at hl
    split at hl
    · rename_i a' b' ha hb
      simp only [Option.some.injEq] at hl; subst hl
      refine awp_seq (awp_mono (rwp_sound hm a a' _ e s ha h) ?_)
      intro x e s hx
      cases x <;> try exact hx
      exact rwp_sound hm b b' Q e s hb hx
    · cases hl
  | .cond c a b, r, Q, e, s, hl, h => by
    simp only [liteC] at hl
    split at hl
    · rename_i c' a' b' hc ha hb
      simp only [Option.some.injEq] at hl; subst hl
      refine awp_cond hc ⟨h.1, ?_⟩
      have h2 := h.2
      split at h2
      · rename_i t ht
        exact ⟨fun h => rwp_sound hm a a' Q e s ha (h2.1 h), fun h => rwp_sound hm b b' Q e s hb (h2.2 h)⟩
      · exact h2.elim
    · cases hl
  | .block id b, r, Q, e, s, hl, h => by
    simp only [liteC, Option.map_eq_some_iff] at hl
    obtain ⟨b', hb, rfl⟩ := hl
    exact awp_block (rwp_sound hm b b' _ e s hb h)
  | .loop b, r, Q, e, s, hl, h => by
    simp only [liteC, Option.map_eq_some_iff] at hl
    obtain ⟨b', hb, rfl⟩ := hl
    obtain ⟨I, μ, ⟨e', s', hw, h0⟩, h1⟩ := h
    exact awp_wk hw (awp_loop I μ h0 fun e s hi => rwp_sound hm b b' _ e s hb (h1 e s hi))
  | .region id ops false, r, Q, e, s, hl, h => by
    simp only [liteC, Option.map_eq_some_iff] at hl
    obtain ⟨rs, hrs, rfl⟩ := hl
    exact awp_reg hrs h
  | .region id ops true, r, Q, e, s, hl, h => by
    simp only [liteC] at hl
    cases hd : drawOK ops (headN ops) with
    | false => rw [hd] at hl; cases hl
    | true =>
      rw [hd] at hl
      simp only [cond_true] at hl
      split at hl
      · rename_i a b ha hb
        simp only [Option.some.injEq] at hl; subst hl
        exact awp_draw hm _ hd ha hb h
      · cases hl
  | .rangeFunc _ _ _ _, r, Q, e, s, hl, h => by simp [liteC] at hl
  | .scope _, r, Q, e, s, hl, h => by simp [liteC] at hl
  | .label _, r, Q, e, s, hl, h => by simp [liteC] at hl
  | .goto _, r, Q, e, s, hl, h => by simp [liteC] at hl
  | .refuse _, r, Q, e, s, hl, h => by simp [liteC] at hl

/-! ### A function -/
def argE : Nat → List AV → Env
  | _, [] => []
  | k, x :: l => (k, x) :: argE (k + 1) l

theorem get_argE : ∀ (xs : List AV) (k t : Nat), get (argE k xs) t = if k ≤ t then (match xs[t - k]? with | some v => v | none => .any) else .any
  | [], k, t => by simp [argE, get]
  | x :: l, k, t => by
    simp only [argE, get]
    by_cases h : k = t
    · subst h; simp
    · simp only [beq_false_of_ne h, cond_false, get_argE l (k + 1) t]
      by_cases h2 : k ≤ t
      · rw [if_pos h2, if_pos (by omega), show t - k = (t - (k + 1)) + 1 by omega]
        simp
      · rw [if_neg h2, if_neg (by omega)]

inductive RV where
  | t (t : Nat)
  | c (t : Nat) (g : Bool) (sz : Nat)
  deriving Inhabited

def resOf (P : Program) : ResultVar → Option RV
  | .tmp t => some (.t t)
  | .cell a t => (isAggT P t).bind fun g => (sizeAt P t).bind fun n => bif g || n == 1 then some (.c a g n) else none

def rvC (e : Env) (s : Store) : RV → Prop
  | .t t => (get e t).live
  | .c t g sz => (get e t).live ∧ rdc s.rows (get e t).strip sz
def rvV (e : Env) (s : Store) : RV → AV
  | .t t => (get e t).strip
  | .c t g sz => bif g then .agg (rdv s.rows (get e t).strip sz) else (rdv s.rows (get e t).strip sz).headD .any
def rvsC (e : Env) (s : Store) : List RV → Prop
  | [] => True
  | x :: l => rvC e s x ∧ rvsC e s l
def tupV : List AV → AV
  | [v] => v
  | vs => .tup vs

def retQ (n0 : Nat) (rv : List RV) (v : AV) : AX → Env → Store → Prop
  | .normal, e, s | .ret, e, s => ∃ e' s', Wk n0 e s e' s' ∧ rvsC e' s' rv ∧ tupV (rv.map (rvV e' s')) = v ∧ Cl v
  | _, _, _ => False
/-- The end of a function: a value and rows, or a panic. -/
def outQ (n0 : Nat) (rv : List RV) (o : AO) (s1 : Store) : AX → Env → Store → Prop
  | .normal, e, s | .ret, e, s => ∃ e', Wk n0 e s e' s1 ∧ rvsC e' s1 rv ∧ o = .ret (tupV (rv.map (rvV e' s1)))
  | .pan v, e, s => ∃ e', Wk n0 e s e' s1 ∧ o = .pan v ∧ Cl v
  | _, _, _ => False

theorem rv_sound {F : Nat → Prop} {w : World} {p : Place} {e : Env} {s : Store} {a : Act} (hr : Rel N F w p e s a) {x : ResultVar} {y : RV} (h : resOf P x = some y) (hc : rvC e s y) :
    ∃ u, ((match x with | .tmp t => pure (a.tmps.getD t undef) | .cell b t => do loadVar t (← asAddr (a.tmps.getD b undef)) : Sem Value)).run P w = .ok u w ∧ VR F w p (fun i => i < s.nx) (rvV e s y) u := by
  cases x with
  | tmp t =>
    simp only [resOf, Option.some.injEq] at h; subst h
    exact ⟨_, rfl, vr_strip (hr.env.val t) hc⟩
  | cell b t =>
    simp only [resOf, Option.bind_eq_some_iff] at h
    obtain ⟨g, hg, n, hn, h⟩ := h
    cases hgn : g || n == 1 with
    | false => rw [hgn] at h; cases h
    | true =>
      rw [hgn] at h
      simp only [cond_true, Option.some.injEq] at h; subst h
      obtain ⟨h1, h2⟩ := hc
      have hv := vr_strip (hr.env.val b) h1
      obtain ⟨u, h3, h4⟩ := ld_sound (P := P) hr.sto hv h2 hg hn (by simpa using hgn)
      obtain ⟨bb, o, c, ty, fz, hu, _⟩ := rd_sound hr.sto hv h2
      refine ⟨u, ?_, h4⟩
      simp only [Instr.loadAt, hu, Instr.sureAddr, Sem.run_bind, Sem.run_pure, Result.andThen_ok] at h3
      simp only [hu, asAddr, Sem.run_bind, Sem.run_pure, Result.andThen_ok]
      exact h3

theorem rvs_sound {F : Nat → Prop} {w : World} {p : Place} {e : Env} {s : Store} {a : Act} (hr : Rel N F w p e s a) : ∀ (xs : List ResultVar) (ys : List RV), mapO (resOf P) xs = some ys → rvsC e s ys →
    ∃ us : List Value, (xs.mapM fun (x : ResultVar) => (match x with | .tmp t => pure (a.tmps.getD t undef) | .cell b t => do loadVar t (← asAddr (a.tmps.getD b undef)) : Sem Value)).run P w = .ok us w ∧
      us.length = ys.length ∧ ∀ (j : Nat) (v : AV), (ys.map (rvV e s))[j]? = some v → VR F w p (fun i => i < s.nx) v (us.getD j undef)
  | [], ys, h, hc => by
    simp only [mapO, Option.some.injEq] at h; subst h
    exact ⟨[], by simp, rfl, by simp⟩
  | x :: xs, ys, h, hc => by
    simp only [mapO] at h
    split at h
    · rename_i y ys' hx hxs
      simp only [Option.some.injEq] at h; subst h
      obtain ⟨u, h1, h2⟩ := rv_sound hr hx hc.1
      obtain ⟨us, h3, h4, h5⟩ := rvs_sound hr xs ys' hxs hc.2
      refine ⟨u :: us, ?_, by simp [h4], fun j v hj => ?_⟩
      · simp only [List.mapM_cons, Sem.run_bind, h1, Result.andThen_ok, h3, Sem.run_pure]
      · cases j with
        | zero => simp at hj; subst hj; simpa using h2
        | succ j => simpa using h5 j v (by simpa using hj)
    · cases h

theorem run_results {fn : Func} {tmps : Array Value} {w : World} {us : List Value} (h : (fn.results.toList.mapM fun (x : ResultVar) => (match x with | .tmp t => pure (tmps.getD t undef) | .cell b t => do loadVar t (← asAddr (tmps.getD b undef)) : Sem Value)).run P w = .ok us w) :
    (results fn tmps).run P w = .ok (if h : us.toArray.size = 1 then us.toArray[0] else .tuple us.toArray) w := by
  unfold results
  rw [Array.mapM_eq_mapM_toList]
  show ((fn.results.toList.mapM _ >>= fun vs => pure vs.toArray) >>= fun vs => _ : Sem Value).run P w = _
  simp only [Sem.run_bind]
  erw [h]
  rfl

theorem tup_sound {F : Nat → Prop} {w : World} {p : Place} {D : Nat → Prop} {vs : List AV} {us : List Value} (hl : us.length = vs.length) (h : ∀ (j : Nat) (v : AV), vs[j]? = some v → VR F w p D v (us.getD j undef)) :
    VR F w p D (tupV vs) (if h : us.toArray.size = 1 then us.toArray[0] else .tuple us.toArray) := by
  by_cases h9 : us.toArray.size = 1
  · rw [dif_pos h9]
    simp only [List.size_toArray] at h9
    cases us with
    | nil => simp at h9
    | cons u us =>
      cases us with
      | cons => simp at h9
      | nil =>
        cases vs with
        | nil => simp at hl
        | cons v vs =>
          cases vs with
          | cons => simp at hl
          | nil => simpa [tupV] using h 0 v rfl
  · rw [dif_neg h9]
    simp only [List.size_toArray] at h9
    have : tupV vs = .tup vs := by
      cases vs with
      | nil => rfl
      | cons v vs =>
        cases vs with
        | nil => simp at hl; exact absurd hl h9
        | cons => rfl
    rw [this]
    refine .tup _ _ (by simp [hl]) fun j v hj => ?_
    have := h j v hj
    rw [List.getD_eq_getElem?_getD] at this
    rw [Array.getD_eq_getD_getElem?]
    simpa using this

theorem scall_of (hm : P.follows .mixedOrders = true) {f : FuncId} {fn : Func} {c : Code} {r : RQ} {rv : List RV} {xs : List AV} {s s1 : Store} {o : AO} (hf : P.funcs[f]? = some fn) (hb : fn.body = some c) (hname : (fn.name == "runtime.NumGoroutine") = false)
    (hl : liteC P fn.ntmps c = some r) (hres : mapO (resOf P) fn.results.toList = some rv) (hN : xs.length ≤ fn.ntmps) (h : rwp P s.nx r (outQ s.nx rv o s1) (argE 0 xs) s) : SCall P f xs s o s1 := by
  refine ⟨fun args w => ?_, fun F w p args hs hargs => ?_⟩
  · have hname' : ¬ (fn.name = "runtime.NumGoroutine") := by simpa using hname
    simp [callFunc, hf, hname', hb]
  · refine calls_of_wp hf hb ((wpIn_wide (n := 0)).1 ?_)
    have hsz : args.size = xs.length := hargs.1
    have hr0 : Rel fn.ntmps F w p (argE 0 xs) s { tmps := args ++ Array.replicate (fn.ntmps - args.size) undef, defers := [] } := by
      refine ⟨⟨by simp; omega, fun t => ?_⟩, hs⟩
      rw [get_argE, if_pos (Nat.zero_le _), Nat.sub_zero]
      cases hx : xs[t]? with
      | none => exact .any _
      | some x =>
        have htl : t < args.size := by rw [hsz]; exact (List.getElem?_eq_some_iff.1 hx).1
        have := hargs.2 t x hx
        simp only
        rw [Array.getD_eq_getD_getElem?, Array.getElem?_append_left htl, ← Array.getD_eq_getD_getElem?]
        exact this
    refine Code.wpIn_mono ?_ (rwp_sound hm c r _ _ _ hl h F w _ _ (Nat.le_refl _) hr0)
    rintro x a w' ⟨F', p', e', s', x', hx, hq, hrel, hev, hds⟩
    have fin : (∃ e1, Wk s.nx e' s' e1 s1 ∧ rvsC e1 s1 rv ∧ o = .ret (tupV (rv.map (rvV e1 s1)))) → a.defers = [] ∧ ∃ u, (results fn a.tmps).run P w' = .ok u w' ∧ ∃ F'' p'', OutR F'' w' p'' (fun i => i < s1.nx) o (.returned u) ∧ SRel F'' w' p'' (fun i => i < s1.nx) s1.rows ∧ Evo s.nx F w p s F'' w' p'' s1 := by
      rintro ⟨e1, hwk, hrc, rfl⟩
      obtain ⟨F'', p'', hrel2, hev2⟩ := hwk _ F' w' p' a hev.nx hrel
      obtain ⟨us, h1, h2, h3⟩ := rvs_sound hrel2 _ _ hres hrc
      exact ⟨hds, _, run_results h1, F'', p'', .ret _ _ (tup_sound (by simp [h2]) h3), hrel2.sto, hev.trans hev2⟩
    cases hx with
    | normal => exact fin hq
    | ret => exact fin hq
    | exit id => exact hq.elim
    | pan v u hv =>
      obtain ⟨e1, hwk, rfl, hcl⟩ := hq
      obtain ⟨F'', p'', hrel2, hev2⟩ := hwk _ F' w' p' a hev.nx hrel
      refine ⟨hds, F'', p'', .pan _ _ ?_, hrel2.sto, hev.trans hev2⟩
      have hb : ∀ b, F' b → F'' b := hev2.inF
      exact (hv.mono hb (fun _ _ => rfl) (fun b c t fz hb => ⟨c, t, fz, hb, rfl⟩) (fun _ _ => rfl) (D' := fun i => i < s'.nx) (fun _ h => h)).closed hcl

theorem evo_nil {F F' : Nat → Prop} {w w' : World} {p p' : Place} {s' : Store} (h : Evo 0 F w p ⟨0, []⟩ F' w' p' s') : Grow w w' ∧ (∀ b, F b → F' b) ∧ (∀ b, F' b → F b ∨ w.heap.size ≤ b) ∧ ∀ b, RowAt p' s' b → w.heap.size ≤ b := by
  have norow : ∀ b, ¬ RowAt p ⟨0, []⟩ b := by rintro b ⟨id, r, hl, _⟩; simp [look] at hl
  exact ⟨⟨h.os, h.tape, h.output, h.size, fun b hb => h.same b hb (norow b)⟩, h.inF, fun b hb => (h.newF b hb).imp id fun h => h.resolve_right (norow b), fun b hb => (h.rows b hb).resolve_right (norow b)⟩
theorem srel_nil {F : Nat → Prop} {w : World} {p : Place} (h : ∀ b, F b → b < w.heap.size) : SRel F w p (fun i => i < 0) [] := ⟨fun id r hl => by simp [look] at hl, fun id id' r r' hl => by simp [look] at hl, h⟩

/-- A call in no store at all. -/
theorem SCall.p {f : FuncId} {xs : List AV} {v : AV} {s1 : Store} (h : SCall P f xs ⟨0, []⟩ (.ret v) s1) (hcl : Cl v) : PCall P f xs v := by
  refine ⟨h.enter, fun F w args hold ha => Calls.mono (h.run F w (fun _ => (0, 0)) args (srel_nil hold) ⟨ha.1, fun j x hj => (ha.2 j x hj).free⟩) ?_⟩
  rintro e w' ⟨F', p', ho, hs, hev⟩
  cases ho with
  | ret _ u hv =>
    obtain ⟨g1, g2, g3, _⟩ := evo_nil hev
    exact ⟨u, rfl, F', g1, g2, fun b hb => (g3 b hb).imp id fun h => ⟨h, hs.old b hb⟩, hv.closed hcl⟩
theorem SCall.r {f : FuncId} {xs : List AV} {v : AV} {m : Nat} {new : Rows} (h : SCall P f xs ⟨0, []⟩ (.ret v) ⟨m, new⟩) (hr : ∀ id r, look new id = some r → id < m) : RCall P f xs 0 m new v := by
  refine ⟨h.enter, fun id r hl => ⟨Nat.zero_le _, by have := hr id r hl; omega⟩, fun F w args hold ha => Calls.mono (h.run F w (fun _ => (0, 0)) args (srel_nil hold) ⟨ha.1, fun j x hj => (ha.2 j x hj).free⟩) ?_⟩
  rintro e w' ⟨F', p', ho, hs, hev⟩
  cases ho with
  | ret _ u hv =>
    obtain ⟨g1, g2, g3, g4⟩ := evo_nil hev
    have hp : ∀ i, i < m → (fun i => if i < m then p' i else (0, 0)) i = p' i := fun i hi => if_pos hi
    have tr : ∀ {v : AV} {u : Value}, VR F' w' p' (fun i => i < m) v u → VR F' w' (fun i => if i < m then p' i else (0, 0)) (fun i => False ∨ (0 ≤ i ∧ i < 0 + m)) v u := fun h =>
      h.mono (fun _ h => h) (fun _ _ => rfl) (fun b c t fz hb => ⟨c, t, fz, hb, rfl⟩) hp (fun i hi => .inr ⟨Nat.zero_le _, by omega⟩)
    refine ⟨u, rfl, F', fun i => if i < m then p' i else (0, 0), g1, g2, fun b hb => (g3 b hb).imp id fun h => ⟨h, hs.old b hb⟩, fun i hi => if_neg (by omega), fun id r hl => ?_, fun id id' r r' hl hl' hne => ?_, tr hv⟩
    · obtain ⟨k1, k2, ⟨⟨c, t, fz, hb, hf, hrr, hvv⟩, hz⟩⟩ := hs.row id r hl
      have k1' : id < m := k1
      simp only [if_pos k1']
      exact ⟨⟨Nat.zero_le _, by omega⟩, g4 _ ⟨id, r, hl, rfl⟩, lt_of_heap hb, k2, ⟨c, t, fz, hb, hf, hrr, fun i x j v hx hj => tr (hvv i x j v hx hj)⟩, hz⟩
    · have k1 : id < m := hr id r hl
      have k2 : id' < m := hr id' r' hl'
      simp only [if_pos k1, if_pos k2]
      exact hs.apart id id' r r' hl hl' hne

theorem pcall_of (hm : P.follows .mixedOrders = true) {f : FuncId} {fn : Func} {c : Code} {r : RQ} {rv : List RV} {xs : List AV} {v : AV} (hf : P.funcs[f]? = some fn) (hb : fn.body = some c) (hname : (fn.name == "runtime.NumGoroutine") = false)
    (hl : liteC P fn.ntmps c = some r) (hres : mapO (resOf P) fn.results.toList = some rv) (hN : xs.length ≤ fn.ntmps) (h : rwp P 0 r (retQ 0 rv v) (argE 0 xs) ⟨0, []⟩) : PCall P f xs v := by
  refine ⟨fun args w => ?_, fun F w args hold hargs => ?_⟩
  · have hname' : ¬ (fn.name = "runtime.NumGoroutine") := by simpa using hname
    simp [callFunc, hf, hname', hb]
  · refine calls_of_wp hf hb ((wpIn_wide (n := 0)).1 ?_)
    have hsz : args.size = xs.length := hargs.1
    have hr0 : Rel fn.ntmps F w (fun _ => (0, 0)) (argE 0 xs) ⟨0, []⟩ { tmps := args ++ Array.replicate (fn.ntmps - args.size) undef, defers := [] } := by
      refine ⟨⟨by simp; omega, fun t => ?_⟩, srel_nil hold⟩
      rw [get_argE, if_pos (Nat.zero_le _), Nat.sub_zero]
      cases hx : xs[t]? with
      | none => exact .any _
      | some x =>
        have htl : t < args.size := by rw [hsz]; exact (List.getElem?_eq_some_iff.1 hx).1
        have := hargs.2 t x hx
        simp only
        rw [Array.getD_eq_getD_getElem?, Array.getElem?_append_left htl, ← Array.getD_eq_getD_getElem?]
        exact this.free
    refine Code.wpIn_mono ?_ (rwp_sound hm c r _ _ _ hl h F w _ _ (Nat.le_refl _) hr0)
    rintro x a w' ⟨F', p', e', s', x', hx, hq, hrel, hev, hds⟩
    have fin : retQ 0 rv v .normal e' s' → a.defers = [] ∧ ∃ u, (results fn a.tmps).run P w' = .ok u w' ∧ ∃ u', Ending.returned u = .returned u' ∧ ∃ F'', Grow w w' ∧ (∀ b, F b → F'' b) ∧ (∀ b, F'' b → F b ∨ (w.heap.size ≤ b ∧ b < w'.heap.size)) ∧ VR F'' w' (fun _ => (0, 0)) (fun _ => False) v u' := by
      rintro ⟨e'', s'', hwk, hrc, rfl, hcl⟩
      obtain ⟨F'', p'', hrel2, hev2⟩ := hwk _ F' w' p' a hev.nx hrel
      obtain ⟨g1, g2, g3, _⟩ := evo_nil (hev.trans hev2)
      obtain ⟨us, h1, h2, h3⟩ := rvs_sound hrel2 _ _ hres hrc
      exact ⟨hds, _, run_results h1, _, rfl, F'', g1, g2, fun b hb => (g3 b hb).imp id fun h => ⟨h, hrel2.sto.old b hb⟩, (tup_sound (by simp [h2]) h3 : VR F'' w' p'' (fun i => i < s''.nx) _ _).closed hcl⟩
    cases hx with
    | normal => exact fin hq
    | ret => exact fin hq
    | exit id => exact hq.elim
    | pan v u hv => exact hq.elim
end
end Go.Proofs.Ytffiicopifmmfaa.Ai
