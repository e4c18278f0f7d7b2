/-
  Code, its types looked up; calls of functions. Plain facts, no condition.
-/
import Derived.Test.YtggmkfagcjdifaaDoorAiP
import Derived.Deep.Slices
import Derived.Lib.SmallJoins
namespace Go.Proofs.YtggmkfagcjdifaaDoor.Ai
set_option linter.unusedSimpArgs false
set_option linter.unusedVariables false
set_option linter.unnecessarySimpa false
set_option linter.unusedSectionVars false
set_option linter.unusedVariables false

inductive RQ where
  | skip
  | ret
  | exit (id : Nat)
  | seq (a b : RQ)
  | cond (c : Opd) (a b : RQ)
  | block (id : Nat) (b : RQ)
  | loop (b : RQ)
  | reg (ops : List RP)
  | drw (ops : List (Bool × RP)) (tail : List RP)
  deriving Inhabited

def isEff (o : Oper) : Bool :=
  match o.op with
  | .store _ _ _ => true
  | .call ⟨.builtin .append, _, _⟩ | .call ⟨.builtin .copy, _, _⟩ => true
  | _ => false
def isApp (o : Oper) : Bool :=
  match o.op with
  | .call ⟨.builtin .append, _, _⟩ | .call ⟨.builtin .copy, _, _⟩ => true
  | _ => false
def headN0 (ops : Array Oper) : Nat := bif drawOK ops (ops.toList.findIdx isEff) then ops.toList.findIdx isEff else ops.toList.findIdx isApp
/-- A call that stands last, behind all else, comes in order (so it may panic, and write). -/
def lastCal (ops : Array Oper) : Bool := match ops[ops.size - 1]? with
  | some o => match o.op with
    | .call ⟨.value _, _, _⟩ => true
    | _ => false
  | none => false
def headN (ops : Array Oper) : Nat := bif headN0 ops == ops.size && (lastCal ops && drawOK ops (ops.size - 1)) then ops.size - 1 else headN0 ops

def liteC (P : Program) (N : Nat) : Code → Option RQ
  | .skip => some .skip
  | .ret => some .ret
  | .exit id => some (.exit id)
  | .seq a b => match liteC P N a, liteC P N b with
    | some a, some b => some (.seq a b)
    | _, _ => none
  | .cond c a b => match opd c, liteC P N a, liteC P N b with
    | some c, some a, some b => some (.cond c a b)
    | _, _, _ => none
  | .block id b => (liteC P N b).map (.block id)
  | .loop b => (liteC P N b).map .loop
  | .region _ ops false => (mapO (lite2 P N ops) ops.toList).map .reg
  | .region _ ops true => bif drawOK ops (headN ops) then
      match mapO (lite2 P N ops) (ops.toList.take (headN ops)), mapO (lite2 P N ops) (ops.toList.drop (headN ops)) with
      | some a, some b => some (.drw (((List.range (headN ops)).map (flB ops (headN ops))).zip a) b)
      | _, _ => none
    else none
  | _ => none

def condR (e : Env) (c : Opd) (A B : Prop) : Prop :=
  lv e c ∧ match sv e c with
  | .bool t => (t = true → A) ∧ (t = false → B)
  | _ => False

def loopR (n0 : Nat) (R : (AX → Env → Store → Prop) → Env → Store → Prop) (Q : AX → Env → Store → Prop) (e : Env) (s : Store) : Prop :=
  ∃ (I : Env → Store → Prop) (μ : Env → Store → Nat), (∃ e' s', Wk n0 e s e' s' ∧ I e' s') ∧ ∀ e s, I e s → R (thn (fun e' s' => ∃ e'' s'', Wk n0 e' s' e'' s'' ∧ I e'' s'' ∧ μ e'' s'' < μ e s) Q) e s

def rwp (P : Program) (n0 : Nat) : RQ → (AX → Env → Store → Prop) → Env → Store → Prop
  | .skip, Q, e, s => Q .normal e s
  | .ret, Q, e, s => Q .ret e s
  | .exit id, Q, e, s => Q (.exit id) e s
  | .seq a b, Q, e, s => rwp P n0 a (thn (rwp P n0 b Q) Q) e s
  | .cond c a b, Q, e, s => condR e c (rwp P n0 a Q e s) (rwp P n0 b Q e s)
  | .block id b, Q, e, s => rwp P n0 b (blk id Q) e s
  | .loop b, Q, e, s => loopR n0 (rwp P n0 b) Q e s
  | .reg ops, Q, e, s => seqR P ops (fun e s => Q .normal e s) (fun v e s => Q (.pan v) e s) e s
  | .drw ops tail, Q, e, s => dR P s.rows s.nx ops s.nx s.rows [] [] (fun e s => seqR P tail (fun e s => Q .normal e s) (fun v e s => Q (.pan v) e s) e s) e

section
variable {P : Program} {N n0 : Nat}

theorem awp_cond {c : Operand} {c' : Opd} {x y : Code} {Q : AX → Env → Store → Prop} {e : Env} {s : Store} (hc : opd c = some c') (h : condR e c' (awp P N n0 none x Q e s) (awp P N n0 none y Q e s)) : awp P N n0 none (.cond c x y) Q e s := by
  intro F w p a hn hr
  obtain ⟨h0, h1⟩ := h
  have hv := (vr_opd hr.sto.old hr.env hc).sv h0
  split at h1
  · rename_i t ht
    rw [ht] at hv
    have hb := vr_bool hv
    cases t with
    | true => exact wpIn_cond_true hb (h1.1 rfl F w p a hn hr)
    | false => exact wpIn_cond_false hb (h1.2 rfl F w p a hn hr)
  · exact h1.elim

theorem rwp_sound (hm : P.follows .mixedOrders = true) : ∀ (c : Code) (r : RQ) (Q : AX → Env → Store → Prop) (e : Env) (s : Store), liteC P N c = some r → rwp P n0 r Q e s → awp P N n0 none c Q e s
  | .skip, r, Q, e, s, hl, h => by simp only [liteC, Option.some.injEq] at hl; subst hl; exact awp_skip h
  | .ret, r, Q, e, s, hl, h => by simp only [liteC, Option.some.injEq] at hl; subst hl; exact awp_ret h
  | .exit id, r, Q, e, s, hl, h => by simp only [liteC, Option.some.injEq] at hl; subst hl; exact awp_exit h
  | .seq a b, r, Q, e, s, hl, h => by
    simp only [liteC] at hl
    split at hl
    · rename_i a' b' ha hb
      simp only [Option.some.injEq] at hl; subst hl
      refine awp_seq (awp_mono (rwp_sound hm a a' _ e s ha h) ?_)
      intro x e s hx
      cases x <;> try exact hx
      exact rwp_sound hm b b' Q e s hb hx
    · cases hl
  | .cond c a b, r, Q, e, s, hl, h => by
    simp only [liteC] at hl
    split at hl
    · rename_i c' a' b' hc ha hb
      simp only [Option.some.injEq] at hl; subst hl
      refine awp_cond hc ⟨h.1, ?_⟩
      have h2 := h.2
      split at h2
      · rename_i t ht
        exact ⟨fun h => rwp_sound hm a a' Q e s ha (h2.1 h), fun h => rwp_sound hm b b' Q e s hb (h2.2 h)⟩
      · exact h2.elim
    · cases hl
  | .block id b, r, Q, e, s, hl, h => by
    simp only [liteC, Option.map_eq_some_iff] at hl
    obtain ⟨b', hb, rfl⟩ := hl
    exact awp_block (rwp_sound hm b b' _ e s hb h)
  | .loop b, r, Q, e, s, hl, h => by
    simp only [liteC, Option.map_eq_some_iff] at hl
    obtain ⟨b', hb, rfl⟩ := hl
    obtain ⟨I, μ, ⟨e', s', hw, h0⟩, h1⟩ := h
    exact awp_wk hw (awp_loop I μ h0 fun e s hi => rwp_sound hm b b' _ e s hb (h1 e s hi))
  | .region id ops false, r, Q, e, s, hl, h => by
    simp only [liteC, Option.map_eq_some_iff] at hl
    obtain ⟨rs, hrs, rfl⟩ := hl
    exact awp_reg hrs h
  | .region id ops true, r, Q, e, s, hl, h => by
    simp only [liteC] at hl
    cases hd : drawOK ops (headN ops) with
    | false => rw [hd] at hl; cases hl
    | true =>
      rw [hd] at hl
      simp only [cond_true] at hl
      split at hl
      · rename_i a b ha hb
        simp only [Option.some.injEq] at hl; subst hl
        exact awp_draw hm _ hd ha hb h
      · cases hl
  | .rangeFunc _ _ _ _, r, Q, e, s, hl, h => by simp [liteC] at hl
  | .scope _, r, Q, e, s, hl, h => by simp [liteC] at hl
  | .label _, r, Q, e, s, hl, h => by simp [liteC] at hl
  | .goto _, r, Q, e, s, hl, h => by simp [liteC] at hl
  | .refuse _, r, Q, e, s, hl, h => by simp [liteC] at hl

/-! ### A function -/
def argE : Nat → List AV → Env
  | _, [] => []
  | k, x :: l => (k, x) :: argE (k + 1) l

theorem get_argE : ∀ (xs : List AV) (k t : Nat), get (argE k xs) t = if k ≤ t then (match xs[t - k]? with | some v => v | none => .any) else .any
  | [], k, t => by simp [argE, get]
  | x :: l, k, t => by
    simp only [argE, get]
    by_cases h : k = t
    · subst h; simp
    · simp only [beq_false_of_ne h, cond_false, get_argE l (k + 1) t]
      by_cases h2 : k ≤ t
      · rw [if_pos h2, if_pos (by omega), show t - k = (t - (k + 1)) + 1 by omega]
        simp
      · rw [if_neg h2, if_neg (by omega)]

inductive RV where
  | t (t : Nat)
  | c (t : Nat) (g : Bool) (sz : Nat)
  deriving Inhabited

def resOf (P : Program) : ResultVar → Option RV
  | .tmp t => some (.t t)
  | .cell a t => (isAggT P t).bind fun g => (sizeAt P t).bind fun n => bif g || n == 1 then some (.c a g n) else none

def rvC (e : Env) (s : Store) : RV → Prop
  | .t t => (get e t).live
  | .c t g sz => (get e t).live ∧ rdc s.rows (get e t).strip sz
def rvV (e : Env) (s : Store) : RV → AV
  | .t t => (get e t).strip
  | .c t g sz => bif g then .agg (rdv s.rows (get e t).strip sz) else (rdv s.rows (get e t).strip sz).headD .any
def rvsC (e : Env) (s : Store) : List RV → Prop
  | [] => True
  | x :: l => rvC e s x ∧ rvsC e s l
def tupV : List AV → AV
  | [v] => v
  | vs => .tup vs

def retQ (n0 : Nat) (rv : List RV) (v : AV) : AX → Env → Store → Prop
  | .normal, e, s | .ret, e, s => ∃ e' s', Wk n0 e s e' s' ∧ rvsC e' s' rv ∧ tupV (rv.map (rvV e' s')) = v ∧ Cl v
  | _, _, _ => False
/-- The end of a function: a value and rows, or a panic. -/
def outQ (n0 : Nat) (rv : List RV) (o : AO) (s1 : Store) : AX → Env → Store → Prop
  | .normal, e, s | .ret, e, s => ∃ e', Wk n0 e s e' s1 ∧ rvsC e' s1 rv ∧ o = .ret (tupV (rv.map (rvV e' s1)))
  | .pan v, e, s => ∃ e', Wk n0 e s e' s1 ∧ o = .pan v ∧ Cl v
  | _, _, _ => False

theorem rv_sound {F : Nat → Prop} {w : World} {p : Place} {e : Env} {s : Store} {a : Act} (hr : Rel N F w p e s a) {x : ResultVar} {y : RV} (h : resOf P x = some y) (hc : rvC e s y) :
    ∃ u, ((match x with | .tmp t => pure (a.tmps.getD t undef) | .cell b t => do loadVar t (← asAddr (a.tmps.getD b undef)) : Sem Value)).run P w = .ok u w ∧ VR F w p (fun i => i < s.nx) (rvV e s y) u := by
  cases x with
  | tmp t =>
    simp only [resOf, Option.some.injEq] at h; subst h
    exact ⟨_, rfl, vr_strip (hr.env.val t) hc⟩
  | cell b t =>
    simp only [resOf, Option.bind_eq_some_iff] at h
    obtain ⟨g, hg, n, hn, h⟩ := h
    cases hgn : g || n == 1 with
    | false => rw [hgn] at h; cases h
    | true =>
      rw [hgn] at h
      simp only [cond_true, Option.some.injEq] at h; subst h
      obtain ⟨h1, h2⟩ := hc
      have hv := vr_strip (hr.env.val b) h1
      obtain ⟨u, h3, h4⟩ := ld_sound (P := P) hr.sto hv h2 hg hn (by simpa using hgn)
      obtain ⟨bb, o, c, ty, fz, hu, _⟩ := rd_sound hr.sto hv h2
      refine ⟨u, ?_, h4⟩
      simp only [Instr.loadAt, hu, Instr.sureAddr, Sem.run_bind, Sem.run_pure, Result.andThen_ok] at h3
      simp only [hu, asAddr, Sem.run_bind, Sem.run_pure, Result.andThen_ok]
      exact h3

theorem rvs_sound {F : Nat → Prop} {w : World} {p : Place} {e : Env} {s : Store} {a : Act} (hr : Rel N F w p e s a) : ∀ (xs : List ResultVar) (ys : List RV), mapO (resOf P) xs = some ys → rvsC e s ys →
    ∃ us : List Value, (xs.mapM fun (x : ResultVar) => (match x with | .tmp t => pure (a.tmps.getD t undef) | .cell b t => do loadVar t (← asAddr (a.tmps.getD b undef)) : Sem Value)).run P w = .ok us w ∧
      us.length = ys.length ∧ ∀ (j : Nat) (v : AV), (ys.map (rvV e s))[j]? = some v → VR F w p (fun i => i < s.nx) v (us.getD j undef)
  | [], ys, h, hc => by
    simp only [mapO, Option.some.injEq] at h; subst h
    exact ⟨[], by simp, rfl, by simp⟩
  | x :: xs, ys, h, hc => by
    simp only [mapO] at h
    split at h
    · rename_i y ys' hx hxs
      simp only [Option.some.injEq] at h; subst h
      obtain ⟨u, h1, h2⟩ := rv_sound hr hx hc.1
      obtain ⟨us, h3, h4, h5⟩ := rvs_sound hr xs ys' hxs hc.2
      refine ⟨u :: us, ?_, by simp [h4], fun j v hj => ?_⟩
      · simp only [List.mapM_cons, Sem.run_bind, h1, Result.andThen_ok, h3, Sem.run_pure]
      · cases j with
        | zero => simp at hj; subst hj; simpa using h2
        | succ j => simpa using h5 j v (by simpa using hj)
    · cases h

theorem run_results {fn : Func} {tmps : Array Value} {w : World} {us : List Value} (h : (fn.results.toList.mapM fun (x : ResultVar) => (match x with | .tmp t => pure (tmps.getD t undef) | .cell b t => do loadVar t (← asAddr (tmps.getD b undef)) : Sem Value)).run P w = .ok us w) :
    (results fn tmps).run P w = .ok (if h : us.toArray.size = 1 then us.toArray[0] else .tuple us.toArray) w := by
  unfold results
  rw [Array.mapM_eq_mapM_toList]
  show ((fn.results.toList.mapM _ >>= fun vs => pure vs.toArray) >>= fun vs => _ : Sem Value).run P w = _
  simp only [Sem.run_bind]
  erw [h]
  rfl

theorem tup_sound {F : Nat → Prop} {w : World} {p : Place} {D : Nat → Prop} {vs : List AV} {us : List Value} (hl : us.length = vs.length) (h : ∀ (j : Nat) (v : AV), vs[j]? = some v → VR F w p D v (us.getD j undef)) :
    VR F w p D (tupV vs) (if h : us.toArray.size = 1 then us.toArray[0] else .tuple us.toArray) := by
  by_cases h9 : us.toArray.size = 1
  · rw [dif_pos h9]
    simp only [List.size_toArray] at h9
    cases us with
    | nil => simp at h9
    | cons u us =>
      cases us with
      | cons => simp at h9
      | nil =>
        cases vs with
        | nil => simp at hl
        | cons v vs =>
          cases vs with
          | cons => simp at hl
          | nil => simpa [tupV] using h 0 v rfl
  · rw [dif_neg h9]
    simp only [List.size_toArray] at h9
    have : tupV vs = .tup vs := by
      cases vs with
      | nil => rfl
      | cons v vs =>
        cases vs with
        | nil => simp at hl; exact absurd hl h9
        | cons => rfl
    rw [this]
    refine .tup _ _ (by simp [hl]) fun j v hj => ?_
    have := h j v hj
    rw [List.getD_eq_getElem?_getD] at this
    rw [Array.getD_eq_getD_getElem?]
    simpa using this

theorem scall_of (hm : P.follows .mixedOrders = true) {f : FuncId} {fn : Func} {c : Code} {r : RQ} {rv : List RV} {xs : List AV} {s s1 : Store} {o : AO} (hf : P.funcs[f]? = some fn) (hb : fn.body = some c) (hname : (fn.name == "runtime.NumGoroutine") = false)
    (hl : liteC P fn.ntmps c = some r) (hres : mapO (resOf P) fn.results.toList = some rv) (hN : xs.length ≤ fn.ntmps) (h : rwp P s.nx r (outQ s.nx rv o s1) (argE 0 xs) s) : SCall P f xs s o s1 := by
  refine ⟨fun args w => ?_, fun F w p args hs hargs => ?_⟩
  · have hname' : ¬ (fn.name = "runtime.NumGoroutine") := by simpa using hname
    simp [callFunc, hf, hname', hb]
  · refine calls_of_wp hf hb ((wpIn_wide (n := 0)).1 ?_)
    have hsz : args.size = xs.length := hargs.1
    have hr0 : Rel fn.ntmps F w p (argE 0 xs) s { tmps := args ++ Array.replicate (fn.ntmps - args.size) undef, defers := [] } := by
      refine ⟨⟨by simp; omega, fun t => ?_⟩, hs⟩
      rw [get_argE, if_pos (Nat.zero_le _), Nat.sub_zero]
      cases hx : xs[t]? with
      | none => exact .any _
      | some x =>
        have htl : t < args.size := by rw [hsz]; exact (List.getElem?_eq_some_iff.1 hx).1
        have := hargs.2 t x hx
        simp only
        rw [Array.getD_eq_getD_getElem?, Array.getElem?_append_left htl, ← Array.getD_eq_getD_getElem?]
        exact this
    refine Code.wpIn_mono ?_ (rwp_sound hm c r _ _ _ hl h F w _ _ (Nat.le_refl _) hr0)
    rintro x a w' ⟨F', p', e', s', x', hx, hq, hrel, hev, hds⟩
    have fin : (∃ e1, Wk s.nx e' s' e1 s1 ∧ rvsC e1 s1 rv ∧ o = .ret (tupV (rv.map (rvV e1 s1)))) → a.defers = [] ∧ ∃ u, (results fn a.tmps).run P w' = .ok u w' ∧ ∃ F'' p'', OutR F'' w' p'' (fun i => i < s1.nx) o (.returned u) ∧ SRel F'' w' p'' (fun i => i < s1.nx) s1.rows ∧ Evo s.nx F w p s F'' w' p'' s1 := by
      rintro ⟨e1, hwk, hrc, rfl⟩
      obtain ⟨F'', p'', hrel2, hev2⟩ := hwk _ F' w' p' a hev.nx hrel
      obtain ⟨us, h1, h2, h3⟩ := rvs_sound hrel2 _ _ hres hrc
      exact ⟨hds, _, run_results h1, F'', p'', .ret _ _ (tup_sound (by simp [h2]) h3), hrel2.sto, hev.trans hev2⟩
    cases hx with
    | normal => exact fin hq
    | ret => exact fin hq
    | exit id => exact hq.elim
    | pan v u hv =>
      obtain ⟨e1, hwk, rfl, hcl⟩ := hq
      obtain ⟨F'', p'', hrel2, hev2⟩ := hwk _ F' w' p' a hev.nx hrel
      refine ⟨hds, F'', p'', .pan _ _ ?_, hrel2.sto, hev.trans hev2⟩
      have hb : ∀ b, F' b → F'' b := hev2.inF
      exact (hv.mono hb (fun _ _ => rfl) (fun b c t fz hb => ⟨c, t, fz, hb, rfl⟩) (fun _ _ => rfl) (D' := fun i => i < s'.nx) (fun _ h => h)).closed hcl

theorem evo_nil {F F' : Nat → Prop} {w w' : World} {p p' : Place} {s' : Store} (h : Evo 0 F w p ⟨0, []⟩ F' w' p' s') : Grow w w' ∧ (∀ b, F b → F' b) ∧ (∀ b, F' b → F b ∨ w.heap.size ≤ b) ∧ ∀ b, RowAt p' s' b → w.heap.size ≤ b := by
  have norow : ∀ b, ¬ RowAt p ⟨0, []⟩ b := by rintro b ⟨id, r, hl, _⟩; simp [look] at hl
  exact ⟨⟨h.os, h.tape, h.output, h.size, fun b hb => h.same b hb (norow b)⟩, h.inF, fun b hb => (h.newF b hb).imp id fun h => h.resolve_right (norow b), fun b hb => (h.rows b hb).resolve_right (norow b)⟩
theorem srel_nil {F : Nat → Prop} {w : World} {p : Place} (h : Old F w) : SRel F w p (fun i => i < 0) [] := ⟨fun id r hl => by simp [look] at hl, fun id id' r r' hl => by simp [look] at hl, h⟩

/-- A call in no store at all. -/
theorem SCall.p {f : FuncId} {xs : List AV} {v : AV} {s1 : Store} (h : SCall P f xs ⟨0, []⟩ (.ret v) s1) (hcl : Cl v) : PCall P f xs v := by
  refine ⟨h.enter, fun F w args hold ha => Calls.mono (h.run F w (fun _ => (0, 0)) args (srel_nil hold) ⟨ha.1, fun j x hj => (ha.2 j x hj).free⟩) ?_⟩
  rintro e w' ⟨F', p', ho, hs, hev⟩
  cases ho with
  | ret _ u hv =>
    obtain ⟨g1, g2, g3, _⟩ := evo_nil hev
    exact ⟨u, rfl, F', g1, g2, fun b hb => (g3 b hb).imp id fun h => ⟨h, hs.old b hb⟩, hv.closed hcl⟩
theorem SCall.r {f : FuncId} {xs : List AV} {v : AV} {m : Nat} {new : Rows} (h : SCall P f xs ⟨0, []⟩ (.ret v) ⟨m, new⟩) (hr : ∀ id r, look new id = some r → id < m) : RCall P f xs 0 m new v := by
  refine ⟨h.enter, fun id r hl => ⟨Nat.zero_le _, by have := hr id r hl; omega⟩, fun F w args hold ha => Calls.mono (h.run F w (fun _ => (0, 0)) args (srel_nil hold) ⟨ha.1, fun j x hj => (ha.2 j x hj).free⟩) ?_⟩
  rintro e w' ⟨F', p', ho, hs, hev⟩
  cases ho with
  | ret _ u hv =>
    obtain ⟨g1, g2, g3, g4⟩ := evo_nil hev
    have hp : ∀ i, i < m → (fun i => if i < m then p' i else (0, 0)) i = p' i := fun i hi => if_pos hi
    have tr : ∀ {v : AV} {u : Value}, VR F' w' p' (fun i => i < m) v u → VR F' w' (fun i => if i < m then p' i else (0, 0)) (fun i => False ∨ (0 ≤ i ∧ i < 0 + m)) v u := fun h =>
      h.mono (fun _ h => h) (fun _ _ => rfl) (fun b c t fz hb => ⟨c, t, fz, hb, rfl⟩) hp (fun i hi => .inr ⟨Nat.zero_le _, by omega⟩)
    refine ⟨u, rfl, F', fun i => if i < m then p' i else (0, 0), g1, g2, fun b hb => (g3 b hb).imp id fun h => ⟨h, hs.old b hb⟩, fun i hi => if_neg (by omega), fun id r hl => ?_, fun id id' r r' hl hl' hne => ?_, tr hv⟩
    · obtain ⟨k1, k2, ⟨⟨c, t, fz, hb, hf, hrr, hvv⟩, hz⟩⟩ := hs.row id r hl
      have k1' : id < m := k1
      simp only [if_pos k1']
      exact ⟨⟨Nat.zero_le _, by omega⟩, g4 _ ⟨id, r, hl, rfl⟩, lt_of_heap hb, k2, ⟨c, t, fz, hb, hf, hrr, fun i x j v hx hj => tr (hvv i x j v hx hj)⟩, hz⟩
    · have k1 : id < m := hr id r hl
      have k2 : id' < m := hr id' r' hl'
      simp only [if_pos k1, if_pos k2]
      exact hs.apart id id' r r' hl hl' hne

theorem pcall_of (hm : P.follows .mixedOrders = true) {f : FuncId} {fn : Func} {c : Code} {r : RQ} {rv : List RV} {xs : List AV} {v : AV} (hf : P.funcs[f]? = some fn) (hb : fn.body = some c) (hname : (fn.name == "runtime.NumGoroutine") = false)
    (hl : liteC P fn.ntmps c = some r) (hres : mapO (resOf P) fn.results.toList = some rv) (hN : xs.length ≤ fn.ntmps) (h : rwp P 0 r (retQ 0 rv v) (argE 0 xs) ⟨0, []⟩) : PCall P f xs v := by
  refine ⟨fun args w => ?_, fun F w args hold hargs => ?_⟩
  · have hname' : ¬ (fn.name = "runtime.NumGoroutine") := by simpa using hname
    simp [callFunc, hf, hname', hb]
  · refine calls_of_wp hf hb ((wpIn_wide (n := 0)).1 ?_)
    have hsz : args.size = xs.length := hargs.1
    have hr0 : Rel fn.ntmps F w (fun _ => (0, 0)) (argE 0 xs) ⟨0, []⟩ { tmps := args ++ Array.replicate (fn.ntmps - args.size) undef, defers := [] } := by
      refine ⟨⟨by simp; omega, fun t => ?_⟩, srel_nil hold⟩
      rw [get_argE, if_pos (Nat.zero_le _), Nat.sub_zero]
      cases hx : xs[t]? with
      | none => exact .any _
      | some x =>
        have htl : t < args.size := by rw [hsz]; exact (List.getElem?_eq_some_iff.1 hx).1
        have := hargs.2 t x hx
        simp only
        rw [Array.getD_eq_getD_getElem?, Array.getElem?_append_left htl, ← Array.getD_eq_getD_getElem?]
        exact this.free
    refine Code.wpIn_mono ?_ (rwp_sound hm c r _ _ _ hl h F w _ _ (Nat.le_refl _) hr0)
    rintro x a w' ⟨F', p', e', s', x', hx, hq, hrel, hev, hds⟩
    have fin : retQ 0 rv v .normal e' s' → a.defers = [] ∧ ∃ u, (results fn a.tmps).run P w' = .ok u w' ∧ ∃ u', Ending.returned u = .returned u' ∧ ∃ F'', Grow w w' ∧ (∀ b, F b → F'' b) ∧ (∀ b, F'' b → F b ∨ (w.heap.size ≤ b ∧ b < w'.heap.size)) ∧ VR F'' w' (fun _ => (0, 0)) (fun _ => False) v u' := by
      rintro ⟨e'', s'', hwk, hrc, rfl, hcl⟩
      obtain ⟨F'', p'', hrel2, hev2⟩ := hwk _ F' w' p' a hev.nx hrel
      obtain ⟨g1, g2, g3, _⟩ := evo_nil (hev.trans hev2)
      obtain ⟨us, h1, h2, h3⟩ := rvs_sound hrel2 _ _ hres hrc
      exact ⟨hds, _, run_results h1, _, rfl, F'', g1, g2, fun b hb => (g3 b hb).imp id fun h => ⟨h, hrel2.sto.old b hb⟩, (tup_sound (by simp [h2]) h3 : VR F'' w' p'' (fun i => i < s''.nx) _ _).closed hcl⟩
    cases hx with
    | normal => exact fin hq
    | ret => exact fin hq
    | exit id => exact hq.elim
    | pan v u hv => exact hq.elim
end
end Go.Proofs.YtggmkfagcjdifaaDoor.Ai
namespace Go.Proofs.YtggmkfagcjdifaaDoor.Ai
set_option linter.unusedSimpArgs false
set_option linter.unusedVariables false
set_option linter.unnecessarySimpa false
set_option linter.unusedSectionVars false
set_option linter.unusedVariables false

/-- Values whose rows are below c. -/
inductive Bel (k : Nat) : AV → Prop
  | any : Bel k .any
  | bool (b : Bool) : Bel k (.bool b)
  | int (kk : IntKind) (n : Int) : Bel k (.int kk n)
  | str (s : ByteArray) : Bel k (.str s)
  | nilp : Bel k .nilp
  | nils : Bel k .nils
  | nilf : Bel k .nilf
  | nili : Bel k .nili
  | nilm : Bel k .nilm
  | agg (cs : List AV) (h : ∀ c ∈ cs, Bel k c) : Bel k (.agg cs)
  | tup (cs : List AV) (h : ∀ c ∈ cs, Bel k c) : Bel k (.tup cs)
  | ros (sz : Nat) (es : List (List AV)) (h : ∀ x ∈ es, ∀ c ∈ x, Bel k c) : Bel k (.ros sz es)
  | rop (cs : List AV) (h : ∀ c ∈ cs, Bel k c) : Bel k (.rop cs)
  | sl (id sz i n : Nat) (c : Option Nat) (h : id < k) : Bel k (.sl id sz i n c)
  | pt (id sz i o : Nat) (h : id < k) : Bel k (.pt id sz i o)
  | fn (f : Fn) (xs ys : List AV) (h1 : ∀ c ∈ xs, Bel k c) (h2 : ∀ c ∈ ys, Bel k c) : Bel k (.fn f xs ys)
  | ifc (t : TypeId) (v : AV) (h : Bel k v) : Bel k (.ifc t v)
  | roe (sz : Nat) : Bel k (.roe sz)
  | opt (t : Bool) (v : AV) (h : Bel k v) : Bel k (.opt t v)

section
variable {k : Nat}
theorem bel_any : Bel k .any = True := eq_true .any
theorem bel_bool {b : Bool} : Bel k (.bool b) = True := eq_true (.bool b)
theorem bel_int {kk : IntKind} {n : Int} : Bel k (.int kk n) = True := eq_true (.int kk n)
theorem bel_str {s : ByteArray} : Bel k (.str s) = True := eq_true (.str s)
theorem bel_nilp : Bel k .nilp = True := eq_true .nilp
theorem bel_nils : Bel k .nils = True := eq_true .nils
theorem bel_nilf : Bel k .nilf = True := eq_true .nilf
theorem bel_nili : Bel k .nili = True := eq_true .nili
theorem bel_nilm : Bel k .nilm = True := eq_true .nilm
theorem bel_roe {sz : Nat} : Bel k (.roe sz) = True := eq_true (.roe sz)
theorem bel_agg {cs : List AV} : Bel k (.agg cs) = ∀ c ∈ cs, Bel k c := propext ⟨fun h => by cases h; assumption, .agg cs⟩
theorem bel_tup {cs : List AV} : Bel k (.tup cs) = ∀ c ∈ cs, Bel k c := propext ⟨fun h => by cases h; assumption, .tup cs⟩
theorem bel_ros {sz : Nat} {es : List (List AV)} : Bel k (.ros sz es) = ∀ x ∈ es, ∀ c ∈ x, Bel k c := propext ⟨fun h => by cases h; assumption, .ros sz es⟩
theorem bel_rop {cs : List AV} : Bel k (.rop cs) = ∀ c ∈ cs, Bel k c := propext ⟨fun h => by cases h; assumption, .rop cs⟩
theorem bel_sl {id sz i n : Nat} {c : Option Nat} : Bel k (.sl id sz i n c) = (id < k) := propext ⟨fun h => by cases h; assumption, .sl id sz i n c⟩
theorem bel_pt {id sz i o : Nat} : Bel k (.pt id sz i o) = (id < k) := propext ⟨fun h => by cases h; assumption, .pt id sz i o⟩
theorem bel_opt {t : Bool} {v : AV} : Bel k (.opt t v) = Bel k v := propext ⟨fun h => by cases h; assumption, .opt t v⟩
theorem bel_ifc {t : TypeId} {v : AV} : Bel k (.ifc t v) = Bel k v := propext ⟨fun h => by cases h; assumption, .ifc t v⟩
theorem bel_fn {f : Fn} {xs ys : List AV} : Bel k (.fn f xs ys) = ((∀ c ∈ xs, Bel k c) ∧ ∀ c ∈ ys, Bel k c) := propext ⟨fun h => by cases h; constructor <;> assumption, fun h => .fn f xs ys h.1 h.2⟩
theorem cl_any : Cl .any = True := eq_true .any
theorem cl_bool {b : Bool} : Cl (.bool b) = True := eq_true (.bool b)
theorem cl_int {kk : IntKind} {n : Int} : Cl (.int kk n) = True := eq_true (.int kk n)
theorem cl_str {s : ByteArray} : Cl (.str s) = True := eq_true (.str s)
theorem cl_nilp : Cl .nilp = True := eq_true .nilp
theorem cl_nils : Cl .nils = True := eq_true .nils
theorem cl_nilf : Cl .nilf = True := eq_true .nilf
theorem cl_nili : Cl .nili = True := eq_true .nili
theorem cl_nilm : Cl .nilm = True := eq_true .nilm
theorem cl_roe {sz : Nat} : Cl (.roe sz) = True := eq_true (.roe sz)
theorem cl_agg {cs : List AV} : Cl (.agg cs) = ∀ c ∈ cs, Cl c := propext ⟨fun h => by cases h; assumption, .agg cs⟩
theorem cl_tup {cs : List AV} : Cl (.tup cs) = ∀ c ∈ cs, Cl c := propext ⟨fun h => by cases h; assumption, .tup cs⟩
theorem cl_ros {sz : Nat} {es : List (List AV)} : Cl (.ros sz es) = ∀ x ∈ es, ∀ c ∈ x, Cl c := propext ⟨fun h => by cases h; assumption, .ros sz es⟩
theorem cl_rop {cs : List AV} : Cl (.rop cs) = ∀ c ∈ cs, Cl c := propext ⟨fun h => by cases h; assumption, .rop cs⟩
theorem cl_opt {t : Bool} {v : AV} : Cl (.opt t v) = Cl v := propext ⟨fun h => by cases h; assumption, .opt t v⟩
theorem cl_ifc {t : TypeId} {v : AV} : Cl (.ifc t v) = Cl v := propext ⟨fun h => by cases h; assumption, .ifc t v⟩
theorem cl_fn {f : Fn} {xs ys : List AV} : Cl (.fn f xs ys) = ((∀ c ∈ xs, Cl c) ∧ ∀ c ∈ ys, Cl c) := propext ⟨fun h => by cases h; constructor <;> assumption, fun h => .fn f xs ys h.1 h.2⟩
end

theorem VR.bel {F : Nat → Prop} {w : World} {p : Place} {D D' : Nat → Prop} {k : Nat} {v : AV} {u : Value} (h : VR F w p D v u) (hb : Bel k v) (hD : ∀ i, i < k → D' i) : VR F w p D' v u := by
  induction hb generalizing u with
  | any => exact .any _
  | bool b => cases h; exact .bool b
  | int kk n => cases h; exact .int kk n
  | str s => cases h; exact .str s
  | nilp => cases h; exact .nilp
  | nils => cases h; exact .nils
  | nilf => cases h; exact .nilf
  | nili => cases h; exact .nili
  | nilm => cases h; exact .nilm
  | agg cs hc ih => cases h with | agg _ us hs h => exact .agg cs us hs fun j v hj => ih v (List.mem_of_getElem? hj) (h j v hj)
  | tup cs hc ih => cases h with | tup _ us hs h => exact .tup cs us hs fun j v hj => ih v (List.mem_of_getElem? hj) (h j v hj)
  | ros sz es hc ih =>
    cases h with
    | rosNil => exact .rosNil sz
    | rosEmp _ a cap => exact .rosEmp sz a cap
    | ros _ _ b o cap c t fz hb hF hcap hsz hr h =>
      exact .ros sz es b o cap c t fz hb hF hcap hsz hr fun i x j v hx hj => ih x (List.mem_of_getElem? hx) v (List.mem_of_getElem? hj) (h i x j v hx hj)
  | rop cs hc ih => cases h with | rop _ b o c t fz hb hF hr h => exact .rop cs b o c t fz hb hF hr fun j v hj => ih v (List.mem_of_getElem? hj) (h j v hj)
  | sl id sz i n c hid => cases h with | sl _ _ _ _ _ a cap _ hn hk ha => exact .sl id sz i n c a cap (hD _ hid) hn hk ha
  | pt id sz i o hid => cases h with | pt _ _ _ _ _ => exact .pt id sz i o (hD _ hid)
  | fn f xs ys h1 h2 ih1 ih2 =>
    cases h with | fn _ _ _ us vs g1 g2 g3 g4 =>
    exact .fn f xs ys us vs g1 g2 (fun j v hj => ih1 v (List.mem_of_getElem? hj) (g3 j v hj)) (fun j v hj => ih2 v (List.mem_of_getElem? hj) (g4 j v hj))
  | ifc t v hc ih => cases h with | ifc _ _ u h => exact .ifc t v u (ih h)
  | roe sz => cases h with | roe _ a cap => exact .roe sz a cap
  | opt t v hc ih => cases h with | opt _ _ _ h1 h2 => exact .opt t v _ (fun h => ih (h1 h)) h2

theorem get_mem {e : Env} {t : Nat} : get e t = .any ∨ ∃ x ∈ e, x.1 = t ∧ get e t = x.2 := by
  induction e with
  | nil => exact .inl rfl
  | cons x l ih =>
    obtain ⟨k, v⟩ := x
    simp only [get]
    by_cases h : k = t
    · subst h; right; exact ⟨(k, v), by simp, rfl, by simp⟩
    · simp only [beq_false_of_ne h, cond_false]
      exact ih.imp (fun h => h) fun ⟨x, h1, h2, h3⟩ => ⟨x, by simp [h1], h2, h3⟩

theorem look_mem {rows : Rows} {id : Nat} {r : Row} (h : look rows id = some r) : (id, r) ∈ rows := by
  induction rows with
  | nil => cases h
  | cons x l ih =>
    obtain ⟨k, q⟩ := x
    rw [look_cons] at h
    split at h
    · rename_i hid; cases h; subst hid; simp
    · exact List.mem_cons_of_mem _ (ih h)

/-- The state with less of it. -/
theorem Wk.to {n0 : Nat} {e e' : Env} {s : Store} {c : Nat} {rows : Rows} (hc : n0 ≤ c) (hs : c ≤ s.nx) (he : ∀ x ∈ e', get e x.1 = x.2 ∧ Bel c x.2)
    (hr : ∀ q ∈ rows, look s.rows q.1 = some q.2 ∧ q.1 < c ∧ ∀ x ∈ q.2.es, ∀ v ∈ x, Bel c v) : Wk n0 e s e' ⟨c, rows⟩ := by
  intro N F w p a hn hrel
  have hl : ∀ id r, look rows id = some r → look s.rows id = some r ∧ id < c ∧ ∀ x ∈ r.es, ∀ v ∈ x, Bel c v := fun id r h => hr (id, r) (look_mem h)
  refine ⟨F, p, ⟨⟨hrel.env.size, fun t => ?_⟩, ⟨fun id r h => ?_, fun id id' r r' h h' => hrel.sto.apart id id' r r' (hl _ _ h).1 (hl _ _ h').1, hrel.sto.old⟩⟩, ?_⟩
  · rcases get_mem (e := e') (t := t) with h | ⟨x, hx, rfl, h⟩
    · rw [h]; exact .any _
    · rw [h]
      obtain ⟨h1, h2⟩ := he x hx
      have := hrel.env.val x.1
      rw [h1] at this
      exact this.bel h2 (fun i hi => hi)
  · obtain ⟨h1, h2, h3⟩ := hl id r h
    obtain ⟨g1, g2, ⟨cc, t, fz, hb, hf, hrr, hv⟩, hz⟩ := hrel.sto.row id r h1
    exact ⟨h2, g2, ⟨cc, t, fz, hb, hf, hrr, fun i x j v hx hj => (hv i x j v hx hj).bel (h3 x (List.mem_of_getElem? hx) v (List.mem_of_getElem? hj)) (fun i hi => hi)⟩, hz⟩
  · refine ⟨rfl, rfl, rfl, Nat.le_refl _, fun _ _ _ => rfl, fun b c t fz hb => ⟨c, t, fz, hb, rfl⟩, fun _ h => h, fun _ h => .inl h, ?_, fun _ _ => rfl, hc⟩
    rintro b ⟨id, r, h, rfl⟩
    exact .inr ⟨id, r, (hl id r h).1, rfl⟩


theorem VR.bel' {F : Nat → Prop} {w : World} {p : Place} {D : Nat → Prop} {k : Nat} {v : AV} {u : Value} (h : VR F w p D v u) (hb : Bel k v) : VR F w p (fun i => i < k) v u := h.bel hb fun _ h => h

/-- The state, told otherwise. -/
theorem Wk.cv {n0 : Nat} {e e' : Env} {s s' : Store} (Z : Nat → Bool) (rho : Nat → Nat) (hn : n0 ≤ s'.nx) (h0 : ∀ i, i < n0 → rho i = i)
    (he : ∀ x ∈ e', Cv s.rows Z rho (get e x.1) x.2 ∧ Bel s'.nx x.2)
    (hr : ∀ q ∈ s'.rows, q.1 < s'.nx ∧ ∃ r, look s.rows (rho q.1) = some r ∧ Z (rho q.1) = false ∧ q.2.sz = r.sz ∧ All2 (All2 (Cv s.rows Z rho)) r.es q.2.es ∧ ∀ x ∈ q.2.es, ∀ v ∈ x, Bel s'.nx v)
    (hinj : ∀ q ∈ s'.rows, ∀ q' ∈ s'.rows, rho q.1 = rho q'.1 → q.1 = q'.1) : Wk n0 e s e' s' := by
  intro N F w p a hnx hrel
  have hs := hrel.sto
  have hV : ∀ {v v' : AV} {u : Value}, Cv s.rows Z rho v v' → Bel s'.nx v' → VR F w p (fun i => i < s.nx) v u → VR (frozenIn F p s.rows Z) w (p ∘ rho) (fun i => i < s'.nx) v' u := fun hc hb hv =>
    (VR.cv (D' := fun i => rho i < s.nx) hs (fun _ h => h) hc hv).bel' hb
  have hl : ∀ id r, look s'.rows id = some r → id < s'.nx ∧ ∃ r0, look s.rows (rho id) = some r0 ∧ Z (rho id) = false ∧ r.sz = r0.sz ∧ All2 (All2 (Cv s.rows Z rho)) r0.es r.es ∧ ∀ x ∈ r.es, ∀ v ∈ x, Bel s'.nx v := fun id r h => hr (id, r) (look_mem h)
  refine ⟨frozenIn F p s.rows Z, p ∘ rho, ⟨⟨hrel.env.size, fun t => ?_⟩, ⟨fun id r h => ?_, fun id id' r r' h h' hne => ?_, ?_⟩⟩, ?_⟩
  · rcases get_mem (e := e') (t := t) with h | ⟨x, hx, rfl, h⟩
    · rw [h]; exact .any _
    · rw [h]
      obtain ⟨h1, h2⟩ := he x hx
      exact hV h1 h2 (hrel.env.val x.1)
  · obtain ⟨h1, r0, h2, h3, h4, h5, h6⟩ := hl id r h
    obtain ⟨g1, g2, ⟨⟨c, t, fz, hb, hf, hrr, hv⟩, hz⟩⟩ := hs.row _ r0 h2
    refine ⟨h1, ?_, ⟨⟨c, t, fz, hb, hf, by rw [h4, all2_len h5]; exact hrr, fun i y j d hy hd => ?_⟩, fun y hy => ?_⟩⟩
    · rintro (h | ⟨id1, r1, k1, k2, k3⟩)
      · exact g2 h
      · by_cases h9 : rho id = id1
        · subst h9; rw [h3] at k1; cases k1
        · exact hs.apart _ _ _ _ h2 k2 h9 k3.symm
    · have hx : i < r0.es.length := by rw [← all2_len h5]; exact (List.getElem?_eq_some_iff.1 hy).1
      have h9 := all2_get h5 i _ y (List.getElem?_eq_getElem hx) hy
      have hj : j < (r0.es[i]).length := by rw [← all2_len h9]; exact (List.getElem?_eq_some_iff.1 hd).1
      rw [h4]
      exact hV (all2_get h9 j _ d (List.getElem?_eq_getElem hj) hd) (h6 y (List.mem_of_getElem? hy) d (List.mem_of_getElem? hd)) (hv i _ j _ (List.getElem?_eq_getElem hx) (List.getElem?_eq_getElem hj))
    · obtain ⟨i, hi, rfl⟩ := List.getElem_of_mem hy
      have hx : i < r0.es.length := by rw [← all2_len h5]; exact hi
      rw [all2_len (all2_get h5 i _ _ (List.getElem?_eq_getElem hx) (List.getElem?_eq_getElem hi)), h4]
      exact hz _ (List.getElem_mem hx)
  · obtain ⟨_, r0, h2, _⟩ := hl id r h
    obtain ⟨_, r0', h2', _⟩ := hl id' r' h'
    exact hs.apart _ _ _ _ h2 h2' fun e => hne (hinj _ (look_mem h) _ (look_mem h') e)
  · exact hs.frozen
  · refine ⟨rfl, rfl, rfl, Nat.le_refl _, fun _ _ _ => rfl, fun b c t fz hb => ⟨c, t, fz, hb, rfl⟩, fun _ h => .inl h, ?_, ?_, fun id hid => by simp only [Function.comp, h0 id hid], hn⟩
    · rintro b (h | ⟨id, r, _, h, rfl⟩)
      · exact .inl h
      · exact .inr (.inr ⟨id, r, h, rfl⟩)
    · rintro b ⟨id, r, h, rfl⟩
      obtain ⟨_, r0, h2, _⟩ := hl id r h
      exact .inr ⟨_, r0, h2, rfl⟩

theorem ret_now {n0 : Nat} {rv : List RV} {v : AV} {e : Env} {s : Store} (h1 : rvsC e s rv) (h2 : tupV (rv.map (rvV e s)) = v) (h3 : Cl v) : retQ n0 rv v .ret e s := ⟨e, s, .refl, h1, h2, h3⟩
theorem end_now {n0 : Nat} {rv : List RV} {v : AV} {e : Env} {s : Store} (h1 : rvsC e s rv) (h2 : tupV (rv.map (rvV e s)) = v) (h3 : Cl v) : retQ n0 rv v .normal e s := ⟨e, s, .refl, h1, h2, h3⟩

section
variable {P : Program} {n0 : Nat} {Q : AX → Env → Store → Prop} {e : Env} {s : Store}
theorem w_skip : rwp P n0 .skip Q e s = Q .normal e s := rfl
theorem w_ret : rwp P n0 .ret Q e s = Q .ret e s := rfl
theorem w_exit {id : Nat} : rwp P n0 (.exit id) Q e s = Q (.exit id) e s := rfl
theorem w_seq {a b : RQ} : rwp P n0 (.seq a b) Q e s = rwp P n0 a (thn (rwp P n0 b Q) Q) e s := rfl
theorem w_cond {c : Opd} {a b : RQ} : rwp P n0 (.cond c a b) Q e s = condR e c (rwp P n0 a Q e s) (rwp P n0 b Q e s) := rfl
theorem w_block {id : Nat} {b : RQ} : rwp P n0 (.block id b) Q e s = rwp P n0 b (blk id Q) e s := rfl
theorem w_reg {ops : List RP} : rwp P n0 (.reg ops) Q e s = seqR P ops (fun e s => Q .normal e s) (fun v e s => Q (.pan v) e s) e s := rfl
theorem w_drw {ops : List (Bool × RP)} {tail : List RP} : rwp P n0 (.drw ops tail) Q e s = dR P s.rows s.nx ops s.nx s.rows [] [] (fun e s => seqR P tail (fun e s => Q .normal e s) (fun v e s => Q (.pan v) e s) e s) e := rfl

/-- A loop. -/
theorem w_loop {b : RQ} (I : Env → Store → Prop) (μ : Env → Store → Nat) (h0 : ∃ e' s', Wk n0 e s e' s' ∧ I e' s')
    (h : ∀ e s, I e s → rwp P n0 b (thn (fun e' s' => ∃ e'' s'', Wk n0 e' s' e'' s'' ∧ I e'' s'' ∧ μ e'' s'' < μ e s) Q) e s) : rwp P n0 (.loop b) Q e s := ⟨I, μ, h0, h⟩

/-- A cond, as a goal for each side. -/
theorem condR_bool {c : Opd} {t : Bool} {A B : Prop} (h : sv e c = .bool t) (h0 : lv e c) (ha : t = true → A) (hb : t = false → B) : condR e c A B := by
  refine ⟨h0, ?_⟩
  rw [h]; exact ⟨ha, hb⟩
end

/-- A list of numbers, as a slice that nobody writes. -/
def ints (k : IntKind) (xs : List Int) : AV := .ros 1 (xs.map fun n => [.int k n])
theorem ibeq (a b : Int) : (a == b) = decide (a = b) := by rw [Bool.eq_iff_iff]; simp
theorem ibne (a b : Int) : (a != b) = !decide (a = b) := by simp [bne, ibeq]
end Go.Proofs.YtggmkfagcjdifaaDoor.Ai
namespace Go.Proofs.YtggmkfagcjdifaaDoor.Ai
set_option linter.unusedSimpArgs false
set_option linter.unusedVariables false
set_option linter.unnecessarySimpa false
set_option linter.unusedSectionVars false
set_option linter.unusedVariables false
open Go.ChangeShapes Go.WideShapes Go.ChangeAt Go.RowKit Go.Deep

def parts (P : Program) (t : TypeId) : Option (List (Nat × TypeId)) :=
  match P.underlying t with
  | some (.struct fs) => some (fs.toList.map fun f => (f.offset, f.type))
  | some (.array n e) => some ((List.range n).map fun i => (i * P.cellsOf e, e))
  | _ => none

/-- Plain data. -/
inductive Dat (P : Program) : TypeId → List AV → Prop
  | bool {t : TypeId} {b : Bool} (h : P.underlying t = some .bool) : Dat P t [.bool b]
  | int {t : TypeId} {k : IntKind} {n : Int} (h : P.underlying t = some (.int k)) (hw : (Lit.int k n).wf = true) : Dat P t [.int k n]
  | str {t : TypeId} {s : ByteArray} (h : P.underlying t = some .string) (hw : s.size ≤ maxLen) : Dat P t [.str s]
  | slice {t e : TypeId} {es : List (List AV)} (h : P.underlying t = some (.slice e)) (hw : es.length * P.bytesOf e ≤ reachBytes) (hl : es.length ≤ maxLen) (hx : ∀ x ∈ es, Dat P e x) : Dat P t [.ros (P.cellsOf e) es]
  | agg {t : TypeId} {l : List (Nat × TypeId)} {xs : List AV} (h : parts P t = some l) (hl : xs.length = P.cellsOf t) (hx : ∀ (i o : Nat) (u : TypeId), l[i]? = some (o, u) → Dat P u ((xs.drop o).take (P.cellsOf u))) : Dat P t xs

def consec (P : Program) : Nat → List (Nat × TypeId) → Nat → Bool
  | o, [], n => o == n
  | o, (p, u) :: l, n => p == o && consec P (o + P.cellsOf u) l n
def plainT (P : Program) : Nat → TypeId → Bool
  | 0, _ => false
  | n + 1, t => match P.underlying t with
    | some .bool | some (.int _) | some .string => true
    | some (.slice e) => plainT P n e && decide (0 < P.cellsOf e)
    | some (.struct _) | some (.array _ _) => match parts P t with
      | some l => consec P 0 l (P.cellsOf t) && l.all fun x => plainT P n x.2
      | none => false
    | _ => false

section
variable {P : Program} {W : World} {H : Type} {enc : TypeId × Value → H}

def InF (W : World) : Nat → Prop := fun b => b < W.heap.size
def Vs (W : World) (xs : List AV) (cs : List Value) : Prop := ∀ j v, xs[j]? = some v → VR (InF W) W (fun _ => (0, 0)) (fun _ => False) v (cs.getD j undef)

theorem trod_array {n : Nat} {e t : TypeId} {fuel : Nat} {cs : List Value} {x : DataW H × List MemPlace} (ht : P.underlying t = some (.array n e)) (h : DataW.trod enc P W 0 (fun _ => true) true fuel t cs = some x) :
    ∃ (xs : List (DataW H × List MemPlace)) (m : Nat), x = (.agg (xs.map (·.1)), xs.flatMap (·.2)) ∧ cs.length = P.cellsOf t ∧ xs.length = n ∧
      ∀ (i : Nat), i < n → DataW.trod enc P W 0 (fun _ => true) true m e ((cs.drop (i * P.cellsOf e)).take (P.cellsOf e)) = xs[i]? := by
  cases fuel with
  | zero => simp [DataW.trod] at h
  | succ m =>
    unfold DataW.trod at h
    rw [ht] at h
    split at h <;> simp_all
    obtain ⟨hl, xs, hp, hd⟩ := h
    exact ⟨xs, hd.symm, by simpa using mapM_some_length hp, m, fun i hi => mapM_some_get hp i i (by simp [hi])⟩

theorem weightsAll_mem {e : TypeId} {d : DataW H} {l : List (DataW H)} (h : d ∈ l) : ∀ k ∈ d.weights P e, k ∈ DataW.weightsAll P e l := by
  induction l with
  | nil => cases h
  | cons y l ih =>
    intro k hk
    rw [DataW.weightsAll, List.mem_append]
    rcases List.mem_cons.1 h with rfl | h
    · exact .inl hk
    · exact .inr (ih h k hk)

/-- The parts of a value, each with its reading. -/
theorem trod_parts {l : List (Nat × TypeId)} {t : TypeId} {fuel : Nat} {cs : List Value} {x : DataW H × List MemPlace} (hp : parts P t = some l) (h : DataW.trod enc P W 0 (fun _ => true) true fuel t cs = some x)
    (hsz : ∀ k ∈ x.1.weights P t, k ≤ reachBytes) :
    cs.length = P.cellsOf t ∧ ∀ (i o : Nat) (u : TypeId), l[i]? = some (o, u) → ∃ m y, DataW.trod enc P W 0 (fun _ => true) true m u ((cs.drop o).take (P.cellsOf u)) = some y ∧ ∀ k ∈ y.1.weights P u, k ≤ reachBytes := by
  unfold parts at hp
  split at hp
  · rename_i fs hu
    simp only [Option.some.injEq] at hp; subst hp
    obtain ⟨xs, n, _, rfl, hl, hxl, hx⟩ := DataW.trod_struct hu h
    refine ⟨hl, fun i o u hi => ?_⟩
    simp only [List.getElem?_map, Array.getElem?_toList, Option.map_eq_some_iff, Prod.mk.injEq] at hi
    obtain ⟨f, hf, rfl, rfl⟩ := hi
    have hif : i < xs.length := by rw [hxl]; exact (Array.getElem?_eq_some_iff.1 hf).1
    refine ⟨n, xs[i], by rw [hx i f hf, List.getElem?_eq_getElem hif], fun k hk => hsz k ?_⟩
    simp only [DataW.weights, hu]
    exact DataW.weights_mem_each (j := i) (t := f.type) (d := xs[i].1) (by simp [hf]) (by simp [List.getElem?_eq_getElem hif]) k hk
  · rename_i n e hu
    simp only [Option.some.injEq] at hp; subst hp
    obtain ⟨xs, m, rfl, hl, hxl, hx⟩ := trod_array hu h
    refine ⟨hl, fun i o u hi => ?_⟩
    have hin : i < n := by simpa using (List.getElem?_eq_some_iff.1 hi).1
    simp only [List.getElem?_map, List.getElem?_range hin, Option.map_some, Option.some.injEq, Prod.mk.injEq] at hi
    obtain ⟨rfl, rfl⟩ := hi
    have hif : i < xs.length := by rw [hxl]; exact hin
    refine ⟨m, xs[i], by rw [hx i hin, List.getElem?_eq_getElem hif], fun k hk => hsz k ?_⟩
    simp only [DataW.weights, hu]
    exact weightsAll_mem (List.mem_map.2 ⟨xs[i], List.getElem_mem hif, rfl⟩) k hk
  · cases hp

theorem Dat.len {t : TypeId} {xs : List AV} (h : Dat P t xs) (h1 : ∀ u, P.underlying t = some .bool ∨ (∃ k, P.underlying t = some (.int k)) ∨ P.underlying t = some .string ∨ (∃ e, P.underlying t = some (.slice e)) → u = t → P.cellsOf u = 1) : xs.length = P.cellsOf t := by
  cases h with
  | bool h => rw [h1 t (.inl h) rfl]; rfl
  | int h _ => rw [h1 t (.inr (.inl ⟨_, h⟩)) rfl]; rfl
  | str h _ => rw [h1 t (.inr (.inr (.inl h))) rfl]; rfl
  | slice h _ _ _ => rw [h1 t (.inr (.inr (.inr ⟨_, h⟩))) rfl]; rfl
  | agg _ hl _ => exact hl

theorem addr_add (a : Addr) (x y : Nat) : (a.add x).add y = a.add (x + y) := by
  unfold Addr.add
  by_cases hy : y = 0
  · subst hy; simp
  · by_cases hx : x = 0
    · subst hx; simp
    · simp [hx, hy, Nat.add_assoc]

theorem choose_list {α : Type} [Inhabited α] (p : Nat → α → Prop) : ∀ n, (∀ i, i < n → ∃ x, p i x) → ∃ l : List α, l.length = n ∧ ∀ i x, l[i]? = some x → p i x
  | 0, _ => ⟨[], rfl, by simp⟩
  | n + 1, h => by
    obtain ⟨l, h1, h2⟩ := choose_list p n fun i hi => h i (by omega)
    obtain ⟨x, hx⟩ := h n (by omega)
    refine ⟨l ++ [x], by simp [h1], fun i y hy => ?_⟩
    rcases Nat.lt_or_ge i n with hi | hi
    · rw [List.getElem?_append_left (by omega)] at hy; exact h2 i y hy
    · rw [List.getElem?_append_right (by omega)] at hy
      have : i - l.length = 0 := by
        rcases Nat.eq_zero_or_pos (i - l.length) with h | h
        · exact h
        · rw [List.getElem?_eq_none (by simp; omega)] at hy; cases hy
      rw [this] at hy
      simp only [List.getElem?_cons_zero, Option.some.injEq] at hy
      subst hy
      rwa [show i = n by omega]

/-- Parts that stand one behind another, put together. -/
theorem glue {cs : List Value} (q : TypeId → List AV → Prop) : ∀ (l : List (Nat × TypeId)) (o n : Nat), consec P o l n = true → n ≤ cs.length →
    (∀ (i p : Nat) (u : TypeId), l[i]? = some (p, u) → ∃ ys, q u ys ∧ ys.length = ((cs.drop p).take (P.cellsOf u)).length ∧ Vs W ys ((cs.drop p).take (P.cellsOf u))) →
    ∃ xs, xs.length = n - o ∧ o ≤ n ∧ (∀ (i p : Nat) (u : TypeId), l[i]? = some (p, u) → o ≤ p ∧ q u ((xs.drop (p - o)).take (P.cellsOf u))) ∧ Vs W xs ((cs.drop o).take (n - o))
  | [], o, n, hc, hn, _ => by
    simp only [consec, beq_iff_eq] at hc
    subst hc
    exact ⟨[], by simp, Nat.le_refl _, by simp, fun j v hj => by simp at hj⟩
  | (p, u) :: l, o, n, hc, hn, h => by
    simp only [consec, Bool.and_eq_true, beq_iff_eq] at hc
    obtain ⟨rfl, hc⟩ := hc
    obtain ⟨ys, h1, h2, h3⟩ := h 0 p u rfl
    obtain ⟨xs, g1, g2, g3, g4⟩ := glue q l (p + P.cellsOf u) n hc hn fun i p' u' hi => h (i + 1) p' u' (by simpa using hi)
    replace h2 : ys.length = P.cellsOf u := by rw [h2, List.length_take, List.length_drop]; omega
    refine ⟨ys ++ xs, by simp [h2, g1]; omega, by omega, fun i p' u' hi => ?_, fun j v hj => ?_⟩
    · cases i with
      | zero =>
        simp only [List.getElem?_cons_zero, Option.some.injEq, Prod.mk.injEq] at hi
        obtain ⟨rfl, rfl⟩ := hi
        refine ⟨Nat.le_refl _, ?_⟩
        rw [Nat.sub_self, List.drop_zero, ← h2, List.take_left]
        exact h1
      | succ i =>
        obtain ⟨k1, k2⟩ := g3 i p' u' (by simpa using hi)
        refine ⟨by omega, ?_⟩
        rw [show p' - p = ys.length + (p' - (p + P.cellsOf u)) by omega, ← List.drop_drop, List.drop_left]
        exact k2
    · rcases Nat.lt_or_ge j ys.length with hjl | hjl
      · rw [List.getElem?_append_left hjl] at hj
        have := h3 j v hj
        rw [List.getD_eq_getElem?_getD, List.getElem?_take, if_pos (by omega)] at this ⊢
        exact this
      · rw [List.getElem?_append_right hjl] at hj
        have := g4 _ v hj
        have hjx : j - ys.length < xs.length := (List.getElem?_eq_some_iff.1 hj).1
        rw [List.getD_eq_getElem?_getD, List.getElem?_take, if_pos (by omega), List.getElem?_drop] at this ⊢
        rwa [show p + j = p + P.cellsOf u + (j - ys.length) by omega]

/-- Plain data, opened: it reads as abstract values. -/
theorem open_dat : ∀ (n : Nat) (t : TypeId) (fuel : Nat) (cs : List Value) (x : DataW H × List MemPlace), plainT P n t = true → DataW.trod enc P W 0 (fun _ => true) true fuel t cs = some x → (∀ k ∈ x.1.weights P t, k ≤ reachBytes) →
    ∃ xs, Dat P t xs ∧ xs.length = cs.length ∧ Vs W xs cs
  | 0, t, fuel, cs, x, hp, _, _ => by simp [plainT] at hp
  | n + 1, t, fuel, cs, x, hp, h, hsz => by
    unfold plainT at hp
    have one : ∀ {v : AV} {u : Value}, VR (InF W) W (fun _ => (0, 0)) (fun _ => False) v u → Vs W [v] [u] := fun hv j y hj => by
      cases j with
      | zero => simp at hj; subst hj; exact hv
      | succ j => simp at hj
    split at hp
    · rename_i hu
      obtain ⟨b, rfl, _⟩ := DataW.trod_bool hu h
      exact ⟨[.bool b], .bool hu, rfl, one (.bool b)⟩
    · rename_i k hu
      obtain ⟨m, rfl, _, hw⟩ := DataW.trod_int hu h
      exact ⟨[.int k m], .int hu hw, rfl, one (.int k m)⟩
    · rename_i hu
      obtain ⟨s, rfl, _, hw⟩ := DataW.trod_string hu h
      exact ⟨[.str s], .str hu hw, rfl, one (.str s)⟩
    · rename_i e hu
      simp only [Bool.and_eq_true, decide_eq_true_eq] at hp
      rcases open_slice hu h with ⟨rfl, _⟩ | ⟨a, len, cap, m, q, D, Pl, rfl, _, hl, hm, hmm, rfl, hx⟩
      · exact ⟨[.ros (P.cellsOf e) []], .slice hu (by simp) (by simp) (by simp), rfl, one (.rosNil _)⟩
      · simp only [if_true] at hmm
        subst hmm
        have hws : ∀ i, i < len → ∀ k ∈ (D i).weights P e, k ≤ reachBytes := fun i hi k hk => hsz k (by
          simp only [DataW.weights, hu, List.mem_cons, List.mem_append]
          exact .inr (.inl (weightsAll_mem (List.mem_map.2 ⟨i, List.mem_range.2 hi, rfl⟩) k hk)))
        have hwl : len * P.bytesOf e ≤ reachBytes := by
          have := hsz ((((List.range len).map D).length + ((List.range (m - len)).map fun j => D (len + j)).length) * P.bytesOf e) (by simp only [DataW.weights, hu]; exact List.mem_cons_self)
          refine Nat.le_trans (Nat.mul_le_mul_right _ ?_) this
          simp
        obtain ⟨es, he1, he2⟩ := choose_list (fun i ys => ∃ cs', W.cells? 0 (a.add (i * P.cellsOf e)) (P.cellsOf e) = some cs' ∧ Dat P e ys ∧ ys.length = cs'.length ∧ Vs W ys cs') len fun i hi => by
          obtain ⟨cs', h1, h2⟩ := hx i (by omega)
          obtain ⟨ys, g1, g2, g3⟩ := open_dat n e q cs' _ hp.1 h2 (hws i hi)
          exact ⟨ys, cs', h1, g1, g2, g3⟩
        have hdat : Dat P t [.ros (P.cellsOf e) es] := .slice hu (by rw [he1]; exact hwl) (by rw [he1]; omega) fun y hy => by
          obtain ⟨i, hi, rfl⟩ := List.getElem_of_mem hy
          obtain ⟨_, _, g, _, _⟩ := he2 i _ (List.getElem?_eq_getElem hi)
          exact g
        refine ⟨_, hdat, rfl, one ?_⟩
        rcases Nat.eq_zero_or_pos len with h0 | h0
        · subst h0
          obtain rfl : es = [] := List.length_eq_zero_iff.1 he1
          exact .rosEmp _ a m
        · have cell : ∀ i j, i < len → j < P.cellsOf e → ∀ cs', W.cells? 0 (a.add (i * P.cellsOf e)) (P.cellsOf e) = some cs' → W.cell? (a.add (i * P.cellsOf e + j)) = cs'[j]? ∧ cs'.length = P.cellsOf e := by
            intro i j hi hj cs' h1
            obtain ⟨_, g1, g2⟩ := World.cells?_some h1
            refine ⟨?_, g1⟩
            rw [← g2 j hj, addr_add]
          have known : ∀ i j, i < len → j < P.cellsOf e → ∃ u, W.cell? (a.add (i * P.cellsOf e + j)) = some u := by
            intro i j hi hj
            obtain ⟨cs', h1, _⟩ := he2 i _ (List.getElem?_eq_getElem (by omega))
            obtain ⟨g1, g2⟩ := cell i j hi hj cs' h1
            exact ⟨cs'[j]'(by omega), by rw [g1, List.getElem?_eq_getElem]⟩
          obtain ⟨u0, hu0⟩ := known 0 0 h0 hp.2
          have hblk : ∃ c ty fz, W.heap[a.block]? = some (.cells c ty fz) ∧ a.spot = none := by
            unfold World.cell? at hu0
            split at hu0
            · rename_i c ty fz hb
              refine ⟨c, ty, fz, by simpa [Addr.add] using hb, ?_⟩
              cases hs : a.spot with
              | none => rfl
              | some y => simp [Addr.add, hs] at hu0
            · cases hu0
          obtain ⟨c, ty, fz, hb, hspot⟩ := hblk
          have at_ : ∀ k, W.cell? (a.add k) = c[a.off + k]? := by
            intro k
            by_cases hk : k = 0
            · subst hk; simp [World.cell?, Addr.add, hb, hspot]
            · simp [World.cell?, Addr.add, hb, hk]
          have hsize : a.off + es.length * P.cellsOf e ≤ c.size := by
            obtain ⟨u, hu'⟩ := known (len - 1) (P.cellsOf e - 1) (by omega) (by omega)
            rw [at_] at hu'
            have := (Array.getElem?_eq_some_iff.1 hu').1
            have hmul : len * P.cellsOf e = (len - 1) * P.cellsOf e + P.cellsOf e := by
              obtain ⟨l', rfl⟩ : ∃ l', len = l' + 1 := ⟨len - 1, by omega⟩
              rw [Nat.add_sub_cancel, Nat.succ_mul]
            rw [he1]; omega
          obtain ⟨ablk, aoff, aspot⟩ := a
          simp only at hspot
          subst hspot
          have hlen : len = es.length := he1.symm
          subst hlen
          refine .ros _ es _ _ _ c ty fz hb (lt_of_heap hb) hl (fun y hy => ?_) hsize fun i y j v hy hj => ?_
          · obtain ⟨i, hi, rfl⟩ := List.getElem_of_mem hy
            obtain ⟨cs', h1, _, g2, _⟩ := he2 i _ (List.getElem?_eq_getElem hi)
            rw [g2]; exact (cell i 0 (by omega) hp.2 cs' h1).2
          · obtain ⟨cs', h1, _, g2, g3⟩ := he2 i y hy
            have hil : i < es.length := (List.getElem?_eq_some_iff.1 hy).1
            have hjl : j < y.length := (List.getElem?_eq_some_iff.1 hj).1
            have hcl := (cell i 0 hil hp.2 cs' h1).2
            obtain ⟨k1, _⟩ := cell i j hil (by omega) cs' h1
            have := g3 j v hj
            rw [at_] at k1
            rw [Array.getD_eq_getD_getElem?, show aoff + i * P.cellsOf e + j = aoff + (i * P.cellsOf e + j) by omega, k1, ← List.getD_eq_getElem?_getD]
            exact this
    all_goals first
      | (split at hp
         · rename_i l hl
           simp only [Bool.and_eq_true] at hp
           obtain ⟨hlen, hx⟩ := trod_parts hl h hsz
           obtain ⟨xs, g1, _, g3, g4⟩ := glue (W := W) (cs := cs) (Dat P) l 0 (P.cellsOf t) hp.1 (Nat.le_of_eq hlen.symm) fun i o u hi => by
             obtain ⟨m, y, h1, h2⟩ := hx i o u hi
             obtain ⟨ys, k1, k2, k3⟩ := open_dat n u m _ y (List.all_eq_true.1 hp.2 _ (List.mem_of_getElem? hi)) h1 h2
             exact ⟨ys, k1, k2, k3⟩
           refine ⟨xs, .agg hl (by simpa using g1) fun i o u hi => by simpa using (g3 i o u hi).2, by rw [g1, hlen]; rfl, ?_⟩
           intro j v hj
           have := g4 j v hj
           rwa [Nat.sub_zero, List.drop_zero, List.take_of_length_le (Nat.le_of_eq hlen)] at this
         · exact absurd hp (by simp))
      | exact absurd hp (by simp)
end
end Go.Proofs.YtggmkfagcjdifaaDoor.Ai
namespace Go.Proofs.YtggmkfagcjdifaaDoor.Ai
set_option linter.unusedSimpArgs false
set_option linter.unusedVariables false
set_option linter.unnecessarySimpa false
set_option linter.unusedSectionVars false
set_option linter.unusedVariables false
open Go.ChangeShapes Go.WideShapes Go.ChangeAt Go.RowKit Go.Deep

section
variable {P : Program} {W : World} {H : Type} {enc : TypeId × Value → H}

theorem PCall.calls_of {f : FuncId} {xs : List AV} {args : Array Value} (h : PCall P f xs (.bool true)) (hg : Old (InF W) W) (hc : CArgs (InF W) W xs args) :
    Calls P f args W fun e W' => e = .returned (.bool true) ∧ Below W.heap.size W W' := by
  refine Calls.mono (h.run (InF W) W args hg hc) ?_
  rintro e w' ⟨u, rfl, F', hg, _, _, hv⟩
  cases hv
  exact ⟨rfl, ⟨hg.os, hg.tape, hg.output, hg.size, fun k hk => hg.same k hk⟩⟩

theorem cargs_nil : CArgs (InF W) W [] #[] := ⟨rfl, by simp⟩
theorem cargs_of {xs : List AV} {l : List Value} (h : Vs W xs l) (hl : xs.length = l.length) : CArgs (InF W) W xs l.toArray := by
  refine ⟨by simp [hl], fun j x hj => ?_⟩
  have := h j x hj
  rwa [Array.getD_eq_getD_getElem?, List.getElem?_toArray, ← List.getD_eq_getElem?_getD]
theorem vs_nil : Vs W [] [] := fun j v hj => by simp at hj
theorem vs_cons {x : AV} {v : Value} {xs : List AV} {l : List Value} (h : VR (InF W) W (fun _ => (0, 0)) (fun _ => False) x v) (hs : Vs W xs l) : Vs W (x :: xs) (v :: l) := fun j y hj => by
  cases j with
  | zero => simp at hj; subst hj; exact h
  | succ j => exact hs j y (by simpa using hj)

theorem weights_of {t : TypeId} {d : DataW H} {ts : List TypeId} {ds : List (DataW H)} (hsz : (DataW.weightsEach P ts ds).all (· ≤ reachBytes) = true) {j : Nat} (htj : ts[j]? = some t) (hdj : ds[j]? = some d) : ∀ k ∈ d.weights P t, k ≤ reachBytes :=
  fun k hk => by have := List.all_eq_true.1 hsz k (DataW.weights_mem_each htj hdj k hk); simpa using this

theorem open_struct_arg {n base : Nat} {t : TypeId} {fs : Array Field} {v : Value} {d : DataW H} {p : List MemPlace} (hs : P.underlying t = some (.struct fs)) (hp : plainT P n t = true) (hv : Value.okWide P W .any base t v)
    (h : DataW.Trod enc P W 0 (fun _ => true) true t v d p) {ts : List TypeId} {ds : List (DataW H)} (hsz : (DataW.weightsEach P ts ds).all (· ≤ reachBytes) = true) {j : Nat} (htj : ts[j]? = some t) (hdj : ds[j]? = some d) :
    ∃ xs, Dat P t xs ∧ VR (InF W) W (fun _ => (0, 0)) (fun _ => False) (.agg xs) v := by
  obtain ⟨cs, rfl, hcs⟩ := okWide_struct hs hv
  obtain ⟨m, hm⟩ := h
  obtain ⟨xs, h1, h2, h3⟩ := open_dat n t m cs.toList _ hp (by simpa [Value.cells] using hm) (weights_of hsz htj hdj)
  refine ⟨xs, h1, .agg xs cs (by simpa using h2.symm) fun j v hj => ?_⟩
  have := h3 j v hj
  rw [List.getD_eq_getElem?_getD] at this
  rw [Array.getD_eq_getD_getElem?]
  simpa using this

theorem open_slice_arg {n base : Nat} {t e : TypeId} {v : Value} {d : DataW H} {p : List MemPlace} (hs : P.underlying t = some (.slice e)) (hp : plainT P n t = true) (hv : Value.okWide P W .any base t v)
    (h : DataW.Trod enc P W 0 (fun _ => true) true t v d p) {ts : List TypeId} {ds : List (DataW H)} (hsz : (DataW.weightsEach P ts ds).all (· ≤ reachBytes) = true) {j : Nat} (htj : ts[j]? = some t) (hdj : ds[j]? = some d) :
    ∃ x, Dat P t [x] ∧ VR (InF W) W (fun _ => (0, 0)) (fun _ => False) x v := by
  obtain ⟨a, len, cap, rfl⟩ := okWide_slice hs hv
  obtain ⟨m, hm⟩ := h
  obtain ⟨xs, h1, h2, h3⟩ := open_dat n t m [_] _ hp (by simpa [Value.cells] using hm) (weights_of hsz htj hdj)
  match xs, h2 with
  | [x], _ => exact ⟨x, h1, h3 0 x rfl⟩

theorem Dat.int_inv {t : TypeId} {k : IntKind} {xs : List AV} (hu : P.underlying t = some (.int k)) (h : Dat P t xs) : ∃ n, xs = [.int k n] ∧ (Lit.int k n).wf = true := by
  cases h with
  | int h hw => rw [hu] at h; cases h; exact ⟨_, rfl, hw⟩
  | bool h => rw [hu] at h; cases h
  | str h _ => rw [hu] at h; cases h
  | slice h _ _ _ => rw [hu] at h; cases h
  | agg h _ _ => simp [parts, hu] at h
theorem Dat.bool_inv {t : TypeId} {xs : List AV} (hu : P.underlying t = some .bool) (h : Dat P t xs) : ∃ b, xs = [.bool b] := by
  cases h with
  | int h hw => rw [hu] at h; cases h
  | bool h => exact ⟨_, rfl⟩
  | str h _ => rw [hu] at h; cases h
  | slice h _ _ _ => rw [hu] at h; cases h
  | agg h _ _ => simp [parts, hu] at h
theorem Dat.str_inv {t : TypeId} {xs : List AV} (hu : P.underlying t = some .string) (h : Dat P t xs) : ∃ s, xs = [.str s] ∧ s.size ≤ maxLen := by
  cases h with
  | int h hw => rw [hu] at h; cases h
  | bool h => rw [hu] at h; cases h
  | str h hw => exact ⟨_, rfl, hw⟩
  | slice h _ _ _ => rw [hu] at h; cases h
  | agg h _ _ => simp [parts, hu] at h
theorem Dat.slice_inv {t e : TypeId} {xs : List AV} (hu : P.underlying t = some (.slice e)) (h : Dat P t xs) :
    ∃ es, xs = [.ros (P.cellsOf e) es] ∧ es.length * P.bytesOf e ≤ reachBytes ∧ es.length ≤ maxLen ∧ ∀ x ∈ es, Dat P e x := by
  cases h with
  | int h hw => rw [hu] at h; cases h
  | bool h => rw [hu] at h; cases h
  | str h hw => rw [hu] at h; cases h
  | slice h h1 h2 h3 => rw [hu] at h; cases h; exact ⟨_, rfl, h1, h2, h3⟩
  | agg h _ _ => simp [parts, hu] at h
theorem Dat.parts_inv {t : TypeId} {l : List (Nat × TypeId)} {xs : List AV} (hu : parts P t = some l) (h : Dat P t xs) :
    xs.length = P.cellsOf t ∧ ∀ (i o : Nat) (u : TypeId), l[i]? = some (o, u) → Dat P u ((xs.drop o).take (P.cellsOf u)) := by
  cases h with
  | int h hw => simp [parts, h] at hu
  | bool h => simp [parts, h] at hu
  | str h hw => simp [parts, h] at hu
  | slice h h1 h2 h3 => simp [parts, h] at hu
  | agg h hl hx => rw [hu] at h; cases h; exact ⟨hl, hx⟩
end
end Go.Proofs.YtggmkfagcjdifaaDoor.Ai
namespace Go.Proofs.YtggmkfagcjdifaaDoor.Ai
set_option linter.unusedSimpArgs false
set_option linter.unusedVariables false
set_option linter.unnecessarySimpa false
set_option linter.unusedSectionVars false
set_option linter.unusedVariables false
open Go.ChangeShapes Go.WideShapes Go.ChangeAt Go.RowKit Go.Deep
section
variable {P : Program} {W : World} {H : Type} {enc : TypeId × Value → H}
theorem okWide_array {r : _} {base n : Nat} {t e : TypeId} {v : Value} (ht : P.underlying t = some (.array n e)) (h : Value.okWide P W r base t v) : ∃ cs, v = .agg cs ∧ cs.size = P.cellsOf t := by
  simp only [Value.okWide, ht] at h
  obtain ⟨cs, h1, h2, _⟩ := h
  exact ⟨cs, h1, h2⟩
theorem open_array_arg {n base m : Nat} {t e : TypeId} {v : Value} {d : DataW H} {p : List MemPlace} (hs : P.underlying t = some (.array m e)) (hp : plainT P n t = true) (hv : Value.okWide P W .any base t v)
    (h : DataW.Trod enc P W 0 (fun _ => true) true t v d p) {ts : List TypeId} {ds : List (DataW H)} (hsz : (DataW.weightsEach P ts ds).all (· ≤ reachBytes) = true) {j : Nat} (htj : ts[j]? = some t) (hdj : ds[j]? = some d) :
    ∃ xs, Dat P t xs ∧ VR (InF W) W (fun _ => (0, 0)) (fun _ => False) (.agg xs) v := by
  obtain ⟨cs, rfl, hcs⟩ := okWide_array hs hv
  obtain ⟨m, hm⟩ := h
  obtain ⟨xs, h1, h2, h3⟩ := open_dat n t m cs.toList _ hp (by simpa [Value.cells] using hm) (weights_of hsz htj hdj)
  refine ⟨xs, h1, .agg xs cs (by simpa using h2.symm) fun j v hj => ?_⟩
  have := h3 j v hj
  rw [List.getD_eq_getElem?_getD] at this
  rw [Array.getD_eq_getD_getElem?]
  simpa using this
end
end Go.Proofs.YtggmkfagcjdifaaDoor.Ai
