/-
  Regions that run in order. Plain facts, no condition.
-/
import Derived.Test.YtggmkfagcjdifaaDoorAiN
namespace Go.Proofs.YtggmkfagcjdifaaDoor.Ai
set_option linter.unusedSimpArgs false
set_option linter.unusedVariables false
set_option linter.unnecessarySimpa false
set_option linter.unusedSectionVars false
set_option linter.unusedVariables false

structure RP where
  dst : Option Nat
  guard : Option (Nat × Bool)
  im : Bool
  op : ROp
  deriving Inhabited

def put (e : Env) : Option Nat → AV → Env
  | none, _ => e
  | some d, v => (d, v) :: e

def gvA (b : Bool) : AV → Option Bool
  | .bool c => some (c == b)
  | .opt d v => match gvA b v with
    | some c => some (d && c)
    | none => none
  | _ => none
def gv (e : Env) (t : Nat) (b : Bool) : Option Bool := gvA b (get e t)

def next (s : Store) (row : Option Row) : Store := ⟨s.nx + 1, push s.rows s.nx row⟩

/-- Operations that make no row. -/
def norow (im : Bool) : ROp → Bool
  | .st _ _ _ | .app _ _ _ _ _ | .cav _ _ | .alloc _ | .box _ | .s2b _ | .mks _ _ _ _ _ | .pan _ | .cpy _ _ => false
  | .bslice _ _ _ _ => im
  | _ => true

def argsP (P : Program) (rows : Rows) (g : FuncId) (vs : List AV) (v : AV) : Prop :=
  ((∀ x ∈ vs, Cl x) ∧ PCall P g vs v) ∨ ∃ ys, All2 (frzArg rows) vs ys ∧ PCall P g ys v ∧ Fl v
theorem argsP.r {P : Program} {rows : Rows} {g : FuncId} {vs : List AV} {v : AV} {k : Nat} (h : argsP P rows g vs v) : argsR P rows g vs k 0 [] v := by
  rcases h with ⟨h1, h2⟩ | ⟨ys, h1, h2, h3⟩
  · exact .inl ⟨h1, h2.r⟩
  · exact .inr ⟨ys, h1, h2.r, h3, trivial⟩
theorem argsP_cl {P : Program} {rows : Rows} {g : FuncId} {vs : List AV} {v : AV} (h : PCall P g vs v) (hc : ∀ x ∈ vs, Cl x) : argsP P rows g vs v := .inl ⟨hc, h⟩
theorem argsP_fz {P : Program} {rows : Rows} {g : FuncId} {vs ys : List AV} {v : AV} (h : PCall P g ys v) (hx : All2 (frzArg rows) vs ys) (hv : Fl v) : argsP P rows g vs v := .inr ⟨ys, hx, h, hv⟩
def calC (P : Program) (e : Env) (rows : Rows) (f : FuncId) (xs : List Opd) (v : AV) : Prop :=
  allLv e xs ∧ argsP P rows f (xs.map (sv e)) v

def outK (K Kp : AV → Store → Prop) : AO → Store → Prop
  | .ret v, s => K v s
  | .pan v, s => Kp v s
def isIfc : AV → Prop
  | .ifc _ _ => True
  | _ => False

def opR (P : Program) (im : Bool) (op : ROp) (e : Env) (s : Store) (K Kp : AV → Store → Prop) : Prop :=
  match op with
  | .st sz a x => lv e a ∧ lv e x ∧ stC s.rows sz (sv e a) (sv e x) ∧ K .any ⟨s.nx + 1, stR s.rows (sv e a) (sv e x)⟩
  | .app sz bytes z x y => lv e x ∧ lv e y ∧ appC s.rows sz bytes z (sv e x) (sv e y) ∧ K (appV s.rows sz s.nx (sv e x) (sv e y)) ⟨s.nx + 1, appR s.rows sz s.nx (sv e x) (sv e y)⟩
  | .cpy x y => lv e x ∧ lv e y ∧ cpyC s.rows (sv e x) (sv e y) ∧ K (.int .i64 (cpyN s.rows (sv e x) (sv e y))) ⟨s.nx + 1, cpyR s.rows (sv e x) (sv e y)⟩
  | .cal f xs => allLv e xs ∧ ∃ o s', SCall P f (xs.map (sv e)) s o s' ∧ outK K Kp o s'
  | .cav f xs => lv e f ∧ allLv e xs ∧ match sv e f with
    | .fn (.func g) a b => ∃ o s', SCall P g (a ++ xs.map (sv e) ++ b) s o s' ∧ outK K Kp o s'
    | _ => False
  | .pan x => lv e x ∧ isIfc (sv e x) ∧ Kp (sv e x) s
  | .bslice sz n z ps => (z.length = sz ∧ n * sz ≤ 2 ^ 24 ∧ elemsC e sz n ps) ∧ (match im with
    | true => 0 < n ∧ K (.ros sz (elemsV e (List.replicate n z) ps)) (next s none)
    | false => K (.sl s.nx sz 0 n (some n)) (next s (some ⟨sz, elemsV e (List.replicate n z) ps⟩)))
  | op => pcond e s.rows op ∧ K (pval e s.rows s.nx op) (next s (prow e s.rows op))

def opG (P : Program) (t : Bool) (op : ROp) (e : Env) (s : Store) (K : AV → Prop) : Prop :=
  match op with
  | .cal f xs => ∃ v, (t = true → calC P e s.rows f xs v) ∧ K v
  | .bslice sz n z ps => (t = true → (z.length = sz ∧ n * sz ≤ 2 ^ 24 ∧ elemsC e sz n ps) ∧ 0 < n) ∧ K (.ros sz (elemsV e (List.replicate n z) ps))
  | op => (t = true → pcond e s.rows op) ∧ K (pval e s.rows s.nx op)

def seqR (P : Program) : List RP → (Env → Store → Prop) → (AV → Env → Store → Prop) → Env → Store → Prop
  | [], K, _, e, s => K e s
  | o :: l, K, Kp, e, s =>
    match o.guard with
    | none => opR P o.im o.op e s (fun v s' => seqR P l K Kp (put e o.dst v) s') (fun v s' => Kp v e s')
    | some (g, b) => match gv e g b with
      | some t => match norow o.im o.op with
        | true => opG P t o.op e s fun v => seqR P l K Kp (put e o.dst (.opt t v)) (next s none)
        | false => (t = true → opR P o.im o.op e s (fun v s' => seqR P l K Kp (put e o.dst v) s') (fun v s' => Kp v e s')) ∧ (t = false → seqR P l K Kp (put e o.dst (.opt false .any)) s)
      | none => False

section
variable {P : Program} {N n0 : Nat} {F : Nat → Prop} {w : World} {p : Place} {e : Env} {s : Store} {a : Act}

theorem get_put (e : Env) (dst : Option Nat) (v : AV) (t : Nat) : get (put e dst v) t = if dst = some t then v else get e t := by
  cases dst with
  | none => simp [put]
  | some d =>
    simp only [put, get, Option.some.injEq]
    by_cases h : d = t <;> simp [h, beq_false_of_ne]

theorem getD_put' (a : Act) (dst : Option Nat) (u : Value) (t : Nat) (h : ∀ d, dst = some d → d < a.tmps.size) : (a.put dst u).tmps.getD t undef = if dst = some t then u else a.tmps.getD t undef := by
  cases dst with
  | none => simp [Act.put]
  | some d =>
    have hd := h d rfl
    simp only [Act.put, Option.some.injEq, Array.getD_eq_getD_getElem?, Array.getElem?_setIfInBounds]
    by_cases hdt : d = t
    · subst hdt; simp [hd]
    · simp [hdt]

theorem ERel.put {F' : Nat → Prop} {w' : World} {p' : Place} {D D' : Nat → Prop} {dst : Option Nat} {v : AV} {u : Value} (h : ERel N F w p D e a.tmps) (hd : ∀ d, dst = some d → d < N)
    (keep : ∀ (v0 : AV) (u0 : Value), VR F w p D v0 u0 → VR F' w' p' D' v0 u0) (hv : VR F' w' p' D' v u) : ERel N F' w' p' D' (put e dst v) (a.put dst u).tmps := by
  refine ⟨?_, fun t => ?_⟩
  · cases dst <;> simp [Act.put, h.size]
  · rw [get_put, getD_put' _ _ _ _ (fun d hdd => by rw [h.size]; exact hd d hdd)]
    split
    · exact hv
    · exact keep _ _ (h.val t)

/-- After an operation that leaves the old memory as it was. -/
theorem rel_prm {F' : Nat → Prop} {w' : World} {u : Value} {m : Nat} {new : Rows} {v : AV} {dst : Option Nat} {p' : Place} (hr : Rel N F w p e s a) (hn : n0 ≤ s.nx) (hd : ∀ d, dst = some d → d < N)
    (h : PRm F w p (fun i => i < s.nx) s.nx m F' w' u new v p') :
    Rel N F' w' p' (put e dst v) ⟨s.nx + m, new ++ s.rows⟩ (a.put dst u) ∧ Evo n0 F w p s F' w' p' ⟨s.nx + m, new ++ s.rows⟩ := by
  obtain ⟨h1, h2, h3, h4⟩ := h.store hr.sto hn
  exact ⟨⟨hr.env.put hd h4 h3, h1⟩, h2⟩

theorem push_app (rows : Rows) (k : Nat) (row : Option Row) : push [] k row ++ rows = push rows k row := by cases row <;> rfl

theorem rel_pr {F' : Nat → Prop} {w' : World} {u : Value} {row : Option Row} {v : AV} {dst : Option Nat} (hr : Rel N F w p e s a) (hn : n0 ≤ s.nx) (hd : ∀ d, dst = some d → d < N)
    (h : PR F w p (fun i => i < s.nx) s.nx F' w' u row v) :
    ∃ p', Rel N F' w' p' (put e dst v) (next s row) (a.put dst u) ∧ Evo n0 F w p s F' w' p' (next s row) := by
  have := rel_prm (a := a) (e := e) (dst := dst) hr hn hd h.m
  rw [push_app] at this
  exact ⟨_, this⟩

/-- After a call. -/
theorem rel_call {F' : Nat → Prop} {w' : World} {p' : Place} {s' : Store} {v : AV} {u : Value} {dst : Option Nat} (hr : Rel N F w p e s a) (hd : ∀ d, dst = some d → d < N)
    (hs : SRel F' w' p' (fun i => i < s'.nx) s'.rows) (hev : Evo s.nx F w p s F' w' p' s') (hv : VR F' w' p' (fun i => i < s'.nx) v u) : Rel N F' w' p' (put e dst v) s' (a.put dst u) :=
  ⟨hr.env.put hd (fun v0 u0 h0 => h0.evo hr.sto hev (fun i hi => hi) (fun i hi => Nat.lt_of_lt_of_le hi hev.nx)) hv, hs⟩
theorem rel_called {F' : Nat → Prop} {w' : World} {p' : Place} {s' : Store} (hr : Rel N F w p e s a)
    (hs : SRel F' w' p' (fun i => i < s'.nx) s'.rows) (hev : Evo s.nx F w p s F' w' p' s') : Rel N F' w' p' e s' a :=
  ⟨⟨hr.env.size, fun t => (hr.env.val t).evo hr.sto hev (fun i hi => hi) (fun i hi => Nat.lt_of_lt_of_le hi hev.nx)⟩, hs⟩

/-- After an operation that writes. -/
theorem rel_eff {w' : World} {u : Value} {rows' : Rows} {v : AV} {dst : Option Nat} (hr : Rel N F w p e s a) (hn : n0 ≤ s.nx) (hd : ∀ d, dst = some d → d < N)
    (h : Eff F w p (fun i => i < s.nx) s.rows s.nx w' u rows' v) :
    ∃ p', Rel N F w' p' (put e dst v) ⟨s.nx + 1, rows'⟩ (a.put dst u) ∧ Evo n0 F w p s F w' p' ⟨s.nx + 1, rows'⟩ := by
  have hs := hr.sto
  obtain ⟨p', hp, h1, h2, h3⟩ := h.st
  have hD : (fun i => i < s.nx ∨ i = s.nx) = fun i => i < s.nx + 1 := by funext i; apply propext; omega
  rw [hD] at h1 h2
  refine ⟨p', ⟨hr.env.put hd (fun v0 u0 h0 => h.env hs hp (fun i hi => Nat.lt_succ_of_lt hi) h0) h2, h1⟩, ?_⟩
  refine ⟨h.os, h.tape, h.output, h.size, fun b hb hnr => h.same b hb (fun ⟨id, r, hl, he⟩ => hnr ⟨id, r, hl, he⟩), h.cells, fun _ h => h, fun _ h => .inl h, ?_, fun id hid => hp id (Nat.lt_of_lt_of_le hid hn), Nat.le_succ_of_le hn⟩
  rintro b ⟨id, r, hl, rfl⟩
  rcases h3 id r hl with h4 | ⟨id0, r0, h4, h5⟩
  · exact .inl h4
  · exact .inr ⟨id0, r0, h4, h5⟩

/-- An operation that is skipped. -/
theorem rel_skip {v : AV} {dst : Option Nat} (hr : Rel N F w p e s a) (hn : n0 ≤ s.nx) (hd : ∀ d, dst = some d → d < N) :
    Rel N F w p (put e dst (.opt false v)) s (a.put dst undef) ∧ Evo n0 F w p s F w p s :=
  ⟨⟨hr.env.put hd (fun _ _ h => h) (.opt false v undef (fun h => by cases h) (fun _ => rfl)), hr.sto⟩, .refl hn⟩

theorem rel_next {v : AV} {dst : Option Nat} (hr : Rel N F w p e s a) (hn : n0 ≤ s.nx) (hd : ∀ d, dst = some d → d < N) :
    ∃ p', Rel N F w p' (put e dst (.opt false v)) (next s none) (a.put dst undef) ∧ Evo n0 F w p s F w p' (next s none) := by
  have h : PR F w p (fun i => i < s.nx) s.nx F w undef none (.opt false v) :=
    ⟨.refl w, fun _ h => h, fun _ h => .inl h, fun r hr => (by cases hr), .opt false v undef (fun h => by cases h) (fun _ => rfl)⟩
  exact rel_pr hr hn hd h
end

/-- How an operation is looked up: the guard's temporary, the types. -/
def imB (ops : Array Oper) (d : Option Tmp) : Bool :=
  match d with
  | some t => ops.any fun o => match o.op with
    | .call ⟨.value _, args, _⟩ => args.any fun | .tmp u => u == t | _ => false
    | .call ⟨.builtin .append, args, _⟩ => match args.toList with | [_, .tmp u] => u == t | _ => false
    | _ => false
  | none => false
def liteG (ops : Array Oper) : Option (Nat × Bool) → Option (Option (Nat × Bool))
  | none => some none
  | some (j, b) => ((ops[j]?).bind (·.dst)).map fun t => some (t, b)
def dstOK (N : Nat) : Option Nat → Bool
  | none => true
  | some d => decide (d < N)
def lite2 (P : Program) (N : Nat) (ops : Array Oper) (o : Oper) : Option RP :=
  match lite1 P o.op, liteG ops o.guard with
  | some r, some g => bif dstOK N o.dst then some ⟨o.dst, g, imB ops o.dst, r⟩ else none
  | _, _ => none

theorem lite1_nodefer {P : Program} {op : Op} {r : ROp} (h : lite1 P op = some r) : ∀ c, op ≠ .defer c := by
  rintro c rfl
  simp [lite1, liteE, liteOp] at h

theorem lite2_spec {P : Program} {N : Nat} {ops : Array Oper} {o : Oper} {r : RP} (h : lite2 P N ops o = some r) :
    lite1 P o.op = some r.op ∧ liteG ops o.guard = some r.guard ∧ r.dst = o.dst ∧ (∀ d, o.dst = some d → d < N) := by
  unfold lite2 at h
  split at h
  · rename_i x g h1 h2
    cases hd : dstOK N o.dst with
    | false => rw [hd] at h; cases h
    | true =>
      rw [hd] at h
      simp only [cond_true, Option.some.injEq] at h
      subst h
      refine ⟨h1, h2, rfl, fun d hdd => ?_⟩
      rw [hdd] at hd
      simpa [dstOK] using hd
  · cases h

def asB : Value → Option Bool
  | .bool b => some b
  | _ => none

theorem gvA_sound {F : Nat → Prop} {w : World} {p : Place} {D : Nat → Prop} {b : Bool} : ∀ {v : AV} {u : Value} {c : Bool}, VR F w p D v u → gvA b v = some c → (asB u == some b) = c
  | v, u, c, h, hc => by
    induction h generalizing c with
    | bool q => simp only [gvA, Option.some.injEq] at hc; subst hc; cases q <;> cases b <;> rfl
    | opt d v' u h1 h2 ih =>
      simp only [gvA] at hc
      split at hc
      · rename_i c' hc'
        simp only [Option.some.injEq] at hc; subst hc
        cases d with
        | false => rw [h2 rfl]; rfl
        | true => rw [Bool.true_and]; exact ih rfl _ hc'
      · cases hc
    | _ => simp [gvA] at hc

/-- Whether an operation is wanted. -/
theorem wanted_of {N : Nat} {F : Nat → Prop} {w : World} {p : Place} {D : Nat → Prop} {e : Env} {ops : Array Oper} {o : Oper} {a : Act} {g : Option (Nat × Bool)} (he : ERel N F w p D e a.tmps) (hg : liteG ops o.guard = some g) :
    (g = none → Region.wanted o (yielded ops a.tmps) = true) ∧ (∀ t b c, g = some (t, b) → gv e t b = some c → Region.wanted o (yielded ops a.tmps) = c) := by
  refine ⟨fun h => ?_, fun t b c h hc => ?_⟩
  · subst h
    cases ho : o.guard with
    | none => simp [Region.wanted, ho]
    | some x =>
      obtain ⟨j, b⟩ := x
      rw [ho] at hg
      simp only [liteG, Option.map_eq_some_iff] at hg
      obtain ⟨_, _, h⟩ := hg
      cases h
  · subst h
    cases ho : o.guard with
    | none => rw [ho] at hg; simp [liteG] at hg
    | some x =>
      obtain ⟨j, b'⟩ := x
      rw [ho] at hg
      simp only [liteG, Option.map_eq_some_iff, Option.some.injEq, Prod.mk.injEq] at hg
      obtain ⟨t', hj, rfl, rfl⟩ := hg
      simp only [Region.wanted, ho, yielded, hj, Option.bind_some]
      have hv := he.val t'
      have h1 := gvA_sound hv hc
      have h2 : asB (a.tmps.getD t' undef) = (match a.tmps[t']? with | some (.bool b) => some b | _ => none) := by
        rw [Array.getD_eq_getD_getElem?]
        cases a.tmps[t']? with
        | none => rfl
        | some y => cases y <;> rfl
      rw [h2] at h1
      exact h1

def kindR (r : ROp) (op : Op) : Prop :=
  match r with
  | .st _ _ _ => ∃ t a x, op = .store t a x
  | .app _ _ _ _ _ | .cal _ _ | .cav _ _ | .cpy _ _ => ∃ c, op = .call c
  | .pan _ => ∃ x, op = .panic x
  | _ => True
theorem liteE_kind {P : Program} {op : Op} {r : ROp} (h : liteE P op = some r) : kindR r op := by
  cases op <;> simp only [liteE, reduceCtorEq] at h
  case binOp op t x y yt =>
    obtain ⟨g, hg, h⟩ := Option.bind_eq_some_iff.1 h
    cases hi : isIfcT P t with
    | true =>
      simp only [hi, cond_true] at h
      split at h
      · obtain ⟨_, _, h⟩ := Option.bind_eq_some_iff.1 h
        cases h; trivial
      · cases h
    | false =>
      simp only [hi, cond_false] at h
      obtain ⟨_, _, h⟩ := Option.bind_eq_some_iff.1 h
      obtain ⟨_, _, h⟩ := Option.bind_eq_some_iff.1 h
      obtain ⟨_, _, h⟩ := Option.bind_eq_some_iff.1 h
      cases h; trivial
  case store t a x =>
    obtain ⟨_, _, h⟩ := Option.bind_eq_some_iff.1 h
    obtain ⟨_, _, h⟩ := Option.bind_eq_some_iff.1 h
    obtain ⟨_, _, h⟩ := Option.bind_eq_some_iff.1 h
    cases h; exact ⟨_, _, _, rfl⟩
  case panic x =>
    obtain ⟨_, _, h⟩ := Option.map_eq_some_iff.1 h
    subst h; exact ⟨_, rfl⟩
  case typeAssert x xt t ok =>
    cases ok with
    | true => cases h
    | false =>
      cases hi : isIfcT P t with
      | true => simp only [hi, cond_true] at h; cases h
      | false =>
        simp only [hi, cond_false] at h
        obtain ⟨_, _, h⟩ := Option.bind_eq_some_iff.1 h
        obtain ⟨_, _, h⟩ := Option.map_eq_some_iff.1 h
        subst h; trivial
  case call c => cases r <;> first | exact ⟨_, rfl⟩ | trivial | skip
                 all_goals
                   exfalso
                   obtain ⟨callee, args, ats⟩ := c
                   cases callee with
                   | invoke r m => cases h
                   | builtin b =>
                     cases b <;> simp only [reduceCtorEq] at h
                     case append =>
                       split at h
                       · simp only [Option.bind_eq_some_iff] at h
                         obtain ⟨_, _, _, _, h⟩ := h
                         split at h
                         · simp only [Option.bind_eq_some_iff, Option.some.injEq] at h
                           obtain ⟨_, _, _, _, h⟩ := h
                           cases h
                         · cases h
                       · cases h
                     case copy =>
                       split at h
                       · simp only [Option.bind_eq_some_iff] at h
                         obtain ⟨_, _, _, _, h⟩ := h
                         split at h
                         · rename_i el el' _ _
                           cases hz : sizeAt P el == some 1 with
                           | false => rw [hz] at h; cases h
                           | true => rw [hz] at h; simp only [cond_true, Option.some.injEq] at h; cases h
                         · cases h
                       · cases h
                   | value f =>
                     cases f <;> simp only [Option.map_eq_some_iff, reduceCtorEq] at h
                     · obtain ⟨_, _, h⟩ := h; cases h
                     · obtain ⟨_, _, h⟩ := h; cases h

theorem opR_cases {P : Program} {im : Bool} {op : ROp} {e : Env} {s : Store} {K Kp : AV → Store → Prop} (h : opR P im op e s K Kp) :
    (∃ m new v, achR P im op e s.rows s.nx m new v ∧ K v ⟨s.nx + m, new ++ s.rows⟩) ∨
    (∃ sz a x, op = .st sz a x ∧ lv e a ∧ lv e x ∧ stC s.rows sz (sv e a) (sv e x) ∧ K .any ⟨s.nx + 1, stR s.rows (sv e a) (sv e x)⟩) ∨
    (∃ sz bytes z x y, op = .app sz bytes z x y ∧ lv e x ∧ lv e y ∧ appC s.rows sz bytes z (sv e x) (sv e y) ∧ K (appV s.rows sz s.nx (sv e x) (sv e y)) ⟨s.nx + 1, appR s.rows sz s.nx (sv e x) (sv e y)⟩) ∨
    (∃ f xs, op = .cal f xs ∧ allLv e xs ∧ ∃ o s', SCall P f (xs.map (sv e)) s o s' ∧ outK K Kp o s') ∨
    (∃ f xs g a b, op = .cav f xs ∧ lv e f ∧ allLv e xs ∧ sv e f = .fn (.func g) a b ∧ ∃ o s', SCall P g (a ++ xs.map (sv e) ++ b) s o s' ∧ outK K Kp o s') ∨
    (∃ x, op = .pan x ∧ lv e x ∧ isIfc (sv e x) ∧ Kp (sv e x) s) ∨
    (∃ x y, op = .cpy x y ∧ lv e x ∧ lv e y ∧ cpyC s.rows (sv e x) (sv e y) ∧ K (.int .i64 (cpyN s.rows (sv e x) (sv e y))) ⟨s.nx + 1, cpyR s.rows (sv e x) (sv e y)⟩) := by
  have go : ∀ {row : Option Row}, (⟨s.nx + 1, push [] s.nx row ++ s.rows⟩ : Store) = next s row := fun {row} => by rw [push_app]; rfl
  cases op <;> try exact .inl ⟨_, _, _, ⟨h.1, rfl, rfl, rfl⟩, by rw [go]; exact h.2⟩
  case bslice sz n z ps =>
    obtain ⟨h1, h2⟩ := h
    cases im with
    | true => exact .inl ⟨1, [], _, ⟨h1, rfl, .inr ⟨rfl, h2.1, rfl, rfl⟩⟩, h2.2⟩
    | false => exact .inl ⟨1, _, _, ⟨h1, rfl, .inl ⟨rfl, rfl, rfl⟩⟩, h2⟩
  case st sz a x => exact .inr (.inl ⟨sz, a, x, rfl, h⟩)
  case app sz b z x y => exact .inr (.inr (.inl ⟨sz, b, z, x, y, rfl, h⟩))
  case cal f xs => exact .inr (.inr (.inr (.inl ⟨f, xs, rfl, h⟩)))
  case pan x => exact .inr (.inr (.inr (.inr (.inr (.inl ⟨x, rfl, h⟩)))))
  case cpy x y => exact .inr (.inr (.inr (.inr (.inr (.inr ⟨x, y, rfl, h⟩)))))
  case cav f xs =>
    obtain ⟨h0, h1, h2⟩ := h
    split at h2
    · rename_i g a b hg
      exact .inr (.inr (.inr (.inr (.inl ⟨f, xs, g, a, b, rfl, h0, h1, hg, h2⟩))))
    · exact h2.elim

theorem opG_cases {P : Program} {im t : Bool} {op : ROp} {e : Env} {s : Store} {K : AV → Prop} (h : opG P t op e s K) (hn : norow im op = true) :
    ∃ m v, m ≤ 1 ∧ (t = true → achR P im op e s.rows s.nx m [] v) ∧ K v := by
  cases op <;> simp only [norow, reduceCtorEq] at hn <;> try exact ⟨1, _, Nat.le_refl _, fun ht => ⟨h.1 ht, rfl, rfl, rfl⟩, h.2⟩
  case bslice sz n z ps => exact ⟨1, _, Nat.le_refl _, fun ht => ⟨(h.1 ht).1, rfl, .inr ⟨hn, (h.1 ht).2, rfl, rfl⟩⟩, h.2⟩
  case cal f xs =>
    obtain ⟨v, h1, h2⟩ := h
    exact ⟨0, v, Nat.zero_le _, fun ht => ⟨(h1 ht).1, (h1 ht).2.r⟩, h2⟩

/-- A call that may panic, or write what is the caller's. -/
theorem call_wp {P : Program} {N : Nat} {F : Nat → Prop} {w : World} {p : Place} {e : Env} {s s' : Store} {a : Act} {o : Oper} {g : FuncId} {us : Array Value} {vs : List AV} {out : AO} {nx : Act → World → Prop} {Q : Exit → Act → World → Prop}
    (hd : ∀ c, o.op ≠ .defer c) (hex : (execOp a.eval o).run P w = (callFunc g us).run P w) (hr : Rel N F w p e s a) (hl : ∀ d, o.dst = some d → d < N) (hu : CellsOK F w p (fun i => i < s.nx) vs us) (hc : SCall P g vs s out s')
    (hret : ∀ v u w' F' p', out = .ret v → Rel N F' w' p' (put e o.dst v) s' (a.put o.dst u) → Evo s.nx F w p s F' w' p' s' → nx (a.put o.dst u) w')
    (hpan : ∀ v u w' F' p', out = .pan v → VR F' w' p' (fun i => i < s'.nx) v u → Rel N F' w' p' e s' a → Evo s.nx F w p s F' w' p' s' → Q (.panic [{ v := u, recovered := false }]) a w') : o.wpIn (WI none) 0 P a w nx Q := by
  refine And.intro (fun f _ => trivial) ?_
  show o.uponIn (WI none) 0 P a nx Q ((execOp a.eval o).run P w)
  rw [hex, hc.enter]
  refine ⟨fun h => (by cases h), ?_⟩
  rw [wi_wide]
  refine callsIn_wide.2 (Calls.mono (hc.run F w p us hr.sto hu) ?_)
  rintro en w' ⟨F', p', ho, hs, hev⟩
  cases ho with
  | ret v u hv => exact hret v u w' F' p' rfl (rel_call hr hl hs hev hv) hev
  | pan v u hv => exact hpan v u w' F' p' rfl hv (rel_called hr hs hev) hev

section
variable {P : Program} {N n0 : Nat} {ops : Array Oper}

/-- One operation, run. -/
theorem opR_sound {F : Nat → Prop} {w : World} {p : Place} {e : Env} {s : Store} {a : Act} {o : Oper} {r : RP} {K Kp : AV → Store → Prop} {nx : Act → World → Prop} {Q : Exit → Act → World → Prop}
    (hl : lite2 P N ops o = some r) (hr : Rel N F w p e s a) (hn : n0 ≤ s.nx) (h : opR P r.im r.op e s K Kp)
    (hK : ∀ u v w' F' p' s', K v s' → Rel N F' w' p' (put e r.dst v) s' (a.put o.dst u) → Evo n0 F w p s F' w' p' s' → nx (a.put o.dst u) w')
    (hP : ∀ u v w' F' p' s', Kp v s' → VR F' w' p' (fun i => i < s'.nx) v u → Rel N F' w' p' e s' a → Evo n0 F w p s F' w' p' s' → Q (.panic [{ v := u, recovered := false }]) a w') : o.wpIn (WI none) 0 P a w nx Q := by
  obtain ⟨l1, l2, l3, l4⟩ := lite2_spec hl
  have ho : ∀ x ∈ o.op.operands, ∀ y, opd x = some y → VR F w p (fun i => i < s.nx) (ev e y) (a.eval x) := fun x _ y hy => vr_opd hr.sto.old hr.env hy
  have hk : ¬ (s.nx < s.nx) := Nat.lt_irrefl _
  rcases opR_cases h with ⟨m, new, v, h1, h2⟩ | h
  · refine (ach_sound hr.sto (fun _ => hk) l1 (fun _ => rfl) ho h1).wpIn (lite1_nodefer l1) ?_
    rintro u w' ⟨F', p', hp⟩
    obtain ⟨g1, g2⟩ := rel_prm (a := a) (e := e) (dst := o.dst) hr hn l4 hp
    rw [← l3] at g1
    exact hK u v w' F' p' _ h2 (by rw [l3] at g1 ⊢; exact g1) g2
  have eff : ∀ {w' : World} {u : Value} {rows' : Rows} {v : AV}, Eff F w p (fun i => i < s.nx) s.rows s.nx w' u rows' v → K v ⟨s.nx + 1, rows'⟩ → nx (a.put o.dst u) w' := by
    intro w' u rows' v hE hv
    obtain ⟨p', k1, k2⟩ := rel_eff (a := a) (dst := o.dst) hr hn l4 hE
    exact hK u v w' F p' _ hv (by rw [l3]; exact k1) k2
  have cal : ∀ {g : FuncId} {us : Array Value} {vs : List AV} {out : AO} {s' : Store}, (∀ c, o.op ≠ .defer c) → (execOp a.eval o).run P w = (callFunc g us).run P w → CellsOK F w p (fun i => i < s.nx) vs us → SCall P g vs s out s' → outK K Kp out s' → o.wpIn (WI none) 0 P a w nx Q := by
    intro g us vs out s' h1 h2 h3 h4 h5
    refine call_wp h1 h2 hr l4 h3 h4 ?_ ?_
    · rintro v u w' F' p' rfl g1 g2
      exact hK u v w' F' p' s' h5 (by rw [l3]; exact g1) (g2.weaken hn)
    · rintro v u w' F' p' rfl hv g1 g2
      exact hP u v w' F' p' s' h5 hv g1 (g2.weaken hn)
  have nd := lite1_nodefer l1
  obtain ⟨dst, op, ty, pos, after, guard⟩ := o
  have no : ∀ r0, r.op = r0 → r0.pure = false → liteE P op = some r0 := by
    intro r0 hr0 hp
    rcases lite1_cases l1 with h9 | ⟨_, h9⟩
    · rw [← hr0]; exact h9
    · rw [hr0, hp] at h9; cases h9
  rcases h with ⟨sz, x, y, hop, h1, h2, h3, h4⟩ | ⟨sz, by', z, x, y, hop, h1, h2, h3, h4⟩ | ⟨f, xs, hop, h1, out, s', h2, h3⟩ | ⟨f, xs, g, a1, b1, hop, h0, h1, hg, out, s', h2, h3⟩ | ⟨x, hop, h0, h1, h2⟩ | ⟨x, y, hop, h1, h2, h3, h4⟩
  · have l1' := no _ hop rfl
    obtain ⟨t, ax, xx, rfl⟩ := liteE_kind l1'
    · simp only [liteE] at l1'
      simp only [Option.bind_eq_some_iff, Option.some.injEq, ROp.st.injEq] at l1'
      obtain ⟨n, hz, a', ha, x', hx, rfl, rfl, rfl⟩ := l1'
      obtain ⟨w', g1, g2⟩ := st_sound (k := s.nx) hr.sto hz ((ho ax (by simp [Op.operands]) a' ha).sv h1) ((ho xx (by simp [Op.operands]) x' hx).sv h2) h3
      refine Does.wpIn (R := fun u w' => Eff F w p (fun i => i < s.nx) s.rows s.nx w' u (stR s.rows (sv e a') (sv e x')) .any) nd (.skip w' (by simp [execOp, g1]) g2) ?_
      intro u w'' hE
      exact eff hE h4
  · have l1' := no _ hop rfl
    obtain ⟨c, rfl⟩ := liteE_kind l1'
    · simp only [liteE] at l1'
      obtain ⟨callee, args, ats⟩ := c
      have hops : ∀ x ∈ args, ∀ y, opd x = some y → VR F w p (fun i => i < s.nx) (ev e y) (a.eval x) := fun x hx => ho x (by simp [Op.operands, Call.operands, hx])
      cases callee with
      | invoke r m => cases l1'
      | builtin b =>
        cases b <;> simp only [reduceCtorEq] at l1'
        case append =>
          split at l1'
          · rename_i x0 y0 hargs
            simp only [Option.bind_eq_some_iff] at l1'
            obtain ⟨x1, hx1, y1, hy1, l1'⟩ := l1'
            split at l1'
            · rename_i el el' hu0 hu1
              simp only [Option.bind_eq_some_iff, Option.some.injEq, ROp.app.injEq] at l1'
              obtain ⟨ti, hi, z', hz', rfl, rfl, rfl, rfl, rfl⟩ := l1'
              obtain ⟨t0, ht0, hu0⟩ := Option.bind_eq_some_iff.1 hu0
              obtain ⟨t1, ht1, hu1⟩ := Option.bind_eq_some_iff.1 hu1
              have hargs' : args = #[x0, y0] := by apply Array.ext'; simpa using hargs
              subst hargs'
              obtain ⟨u, w', g1, g2⟩ := app_sound (ty := ty) (k := s.nx) hr.sto hk ht0 ht1 hu0 hu1 hi hz' ((hops x0 (by simp) x1 hx1).sv h1) ((hops y0 (by simp) y1 hy1).sv h2) h3
              refine Does.wpIn (R := fun u w' => Eff F w p (fun i => i < s.nx) s.rows s.nx w' u (appR s.rows ti.size s.nx (sv e x1) (sv e y1)) (appV s.rows ti.size s.nx (sv e x1) (sv e y1))) (fun c h => by cases h) (.value u w' ?_ g2) ?_
              · simp only [execOp, resolve, Sem.run_bind, Sem.run_pure, Result.andThen_ok, invoke, builtin]
                have : (#[x0, y0] : Array Operand).map a.eval = #[a.eval x0, a.eval y0] := by simp
                rw [this, g1]
                rfl
              · intro u w'' hE
                exact eff hE h4
            · cases l1'
          · cases l1'
        case copy =>
          exfalso
          split at l1'
          · simp only [Option.bind_eq_some_iff] at l1'
            obtain ⟨_, _, _, _, l1'⟩ := l1'
            split at l1'
            · rename_i el el' _ _
              cases hz : sizeAt P el == some 1 with
              | false => rw [hz] at l1'; cases l1'
              | true => rw [hz] at l1'; simp only [cond_true, Option.some.injEq] at l1'; cases l1'
            · cases l1'
          · cases l1'
      | value f =>
        cases f <;> simp only [Option.map_eq_some_iff, reduceCtorEq] at l1'
        · obtain ⟨_, _, h⟩ := l1'; cases h
        · obtain ⟨_, _, h⟩ := l1'; cases h
  · have l1' := no _ hop rfl
    obtain ⟨c, rfl⟩ := liteE_kind l1'
    · simp only [liteE] at l1'
      obtain ⟨callee, args, ats⟩ := c
      have hops : ∀ x ∈ args, ∀ y, opd x = some y → VR F w p (fun i => i < s.nx) (ev e y) (a.eval x) := fun x hx => ho x (by simp [Op.operands, Call.operands, hx])
      cases callee with
      | invoke r m => cases l1'
      | builtin b =>
        exfalso
        cases b <;> simp only [reduceCtorEq] at l1'
        case append =>
          split at l1'
          · simp only [Option.bind_eq_some_iff] at l1'
            obtain ⟨_, _, _, _, l1'⟩ := l1'
            split at l1'
            · simp only [Option.bind_eq_some_iff, Option.some.injEq] at l1'
              obtain ⟨_, _, _, _, l1'⟩ := l1'
              cases l1'
            · cases l1'
          · cases l1'
        case copy =>
          split at l1'
          · simp only [Option.bind_eq_some_iff] at l1'
            obtain ⟨_, _, _, _, l1'⟩ := l1'
            split at l1'
            · rename_i el el' _ _
              cases hz : sizeAt P el == some 1 with
              | false => rw [hz] at l1'; cases l1'
              | true => rw [hz] at l1'; simp only [cond_true, Option.some.injEq] at l1'; cases l1'
            · cases l1'
          · cases l1'
      | value fo =>
        cases fo <;> simp only [Option.map_eq_some_iff, reduceCtorEq] at l1'
        case func g =>
          obtain ⟨ys, hys, hcal⟩ := l1'
          cases hcal
          have hv := ho (.func f) (by simp [Op.operands, Call.operands]) (.f f) rfl
          simp only [ev] at hv
          generalize hu : a.eval (.func f) = u at hv
          cases hv with
          | fn _ _ _ us vs g1 g2 g3 g4 =>
            have e1 : us = #[] := Array.eq_empty_of_size_eq_zero g1
            have e2 : vs = #[] := Array.eq_empty_of_size_eq_zero g2
            refine cal nd ?_ (list_ok hys hops h1) h2 h3
            simp [execOp, resolve, hu, Deferred.ofValue, invoke, e1, e2]
        case tmp t => obtain ⟨_, _, h⟩ := l1'; cases h
  · have l1' := no _ hop rfl
    obtain ⟨c, rfl⟩ := liteE_kind l1'
    · simp only [liteE] at l1'
      obtain ⟨callee, args, ats⟩ := c
      have hops : ∀ x ∈ args, ∀ y, opd x = some y → VR F w p (fun i => i < s.nx) (ev e y) (a.eval x) := fun x hx => ho x (by simp [Op.operands, Call.operands, hx])
      cases callee with
      | invoke r m => cases l1'
      | builtin b =>
        exfalso
        cases b <;> simp only [reduceCtorEq] at l1'
        case append =>
          split at l1'
          · simp only [Option.bind_eq_some_iff] at l1'
            obtain ⟨_, _, _, _, l1'⟩ := l1'
            split at l1'
            · simp only [Option.bind_eq_some_iff, Option.some.injEq] at l1'
              obtain ⟨_, _, _, _, l1'⟩ := l1'
              cases l1'
            · cases l1'
          · cases l1'
        case copy =>
          split at l1'
          · simp only [Option.bind_eq_some_iff] at l1'
            obtain ⟨_, _, _, _, l1'⟩ := l1'
            split at l1'
            · rename_i el el' _ _
              cases hz : sizeAt P el == some 1 with
              | false => rw [hz] at l1'; cases l1'
              | true => rw [hz] at l1'; simp only [cond_true, Option.some.injEq] at l1'; cases l1'
            · cases l1'
          · cases l1'
      | value fo =>
        cases fo <;> simp only [Option.map_eq_some_iff, reduceCtorEq] at l1'
        case func g => obtain ⟨_, _, h⟩ := l1'; cases h
        case tmp t =>
          obtain ⟨ys, hys, hcal⟩ := l1'
          cases hcal
          have hv := (ho (.tmp t) (by simp [Op.operands, Call.operands]) (.t t) rfl).sv h0
          rw [hg] at hv
          generalize hu : a.eval (.tmp t) = u at hv
          cases hv with
          | fn _ _ _ us vs g1 g2 g3 g4 =>
            refine cal nd ?_ ((CellsOK.append ⟨g1, g3⟩ (list_ok hys hops h1)).append ⟨g2, g4⟩) h2 h3
            simp [execOp, resolve, hu, Deferred.ofValue, invoke]
  · have l1' := no _ hop rfl
    obtain ⟨x', rfl⟩ := liteE_kind l1'
    · simp only [liteE] at l1'
      simp only [Option.map_eq_some_iff] at l1'
      obtain ⟨y, hy, hyx⟩ := l1'
      cases hyx
      have hv := (ho x' (by simp [Op.operands]) x hy).sv h0
      cases hx : sv e x with
      | ifc t v =>
        rw [hx] at hv h2
        generalize hu : a.eval x' = u at hv
        have hv0 := hv
        cases hv with
        | ifc _ _ u0 hu0 =>
          refine And.intro (fun f _ => trivial) ?_
          show Oper.uponIn (WI none) 0 P ⟨dst, .panic x', ty, pos, after, guard⟩ a nx Q ((execOp a.eval ⟨dst, .panic x', ty, pos, after, guard⟩).run P w)
          simp only [execOp, hu, Instr.panic, goPanic]
          exact hP _ _ w F p s h2 hv0 hr (.refl hn)
      | _ => rw [hx] at h1; exact h1.elim
  · have l1' := no _ hop rfl
    obtain ⟨c, rfl⟩ := liteE_kind l1'
    · simp only [liteE] at l1'
      obtain ⟨callee, args, ats⟩ := c
      have hops : ∀ x ∈ args, ∀ y, opd x = some y → VR F w p (fun i => i < s.nx) (ev e y) (a.eval x) := fun x hx => ho x (by simp [Op.operands, Call.operands, hx])
      cases callee with
      | invoke r m => cases l1'
      | builtin b =>
        cases b <;> simp only [reduceCtorEq] at l1'
        case append =>
          exfalso
          split at l1'
          · simp only [Option.bind_eq_some_iff] at l1'
            obtain ⟨_, _, _, _, l1'⟩ := l1'
            split at l1'
            · simp only [Option.bind_eq_some_iff, Option.some.injEq] at l1'
              obtain ⟨_, _, _, _, l1'⟩ := l1'
              cases l1'
            · cases l1'
          · cases l1'
        case copy =>
          split at l1'
          · rename_i x0 y0 hargs
            simp only [Option.bind_eq_some_iff] at l1'
            obtain ⟨x1, hx1, y1, hy1, l1'⟩ := l1'
            split at l1'
            · rename_i el el' hu0 hu1
              cases hz : sizeAt P el == some 1 with
              | false => rw [hz] at l1'; cases l1'
              | true =>
                rw [hz] at l1'
                simp only [cond_true, Option.some.injEq, ROp.cpy.injEq] at l1'
                obtain ⟨rfl, rfl⟩ := l1'
                obtain ⟨t0, ht0, hu0⟩ := Option.bind_eq_some_iff.1 hu0
                have hargs' : args = #[x0, y0] := by apply Array.ext'; simpa using hargs
                subst hargs'
                obtain ⟨w', g1, g2⟩ := cpy_sound (ty := ty) (k := s.nx) hr.sto ht0 hu0 (by simpa using hz) ((hops x0 (by simp) x1 hx1).sv h1) ((hops y0 (by simp) y1 hy1).sv h2) h3
                refine Does.wpIn (R := fun u w' => Eff F w p (fun i => i < s.nx) s.rows s.nx w' u (cpyR s.rows (sv e x1) (sv e y1)) (.int .i64 (cpyN s.rows (sv e x1) (sv e y1)))) (fun c h => by cases h) (.value _ w' ?_ g2) ?_
                · simp only [execOp, resolve, Sem.run_bind, Sem.run_pure, Result.andThen_ok, invoke, builtin]
                  have : (#[x0, y0] : Array Operand).map a.eval = #[a.eval x0, a.eval y0] := by simp
                  rw [this, g1]
                  rfl
                · intro u w'' hE
                  exact eff hE h4
            · cases l1'
          · cases l1'
      | value f =>
        cases f <;> simp only [Option.map_eq_some_iff, reduceCtorEq] at l1'
        · obtain ⟨_, _, h⟩ := l1'; cases h
        · obtain ⟨_, _, h⟩ := l1'; cases h

theorem seq_sound {Q : AX → Env → Store → Prop} {F0 : Nat → Prop} {w0 : World} {p0 : Place} {s0 : Store} {ds : List Deferred} :
    ∀ (l : List Oper) (rs : List RP) (F : Nat → Prop) (w : World) (p : Place) (e : Env) (s : Store) (a : Act), mapO (lite2 P N ops) l = some rs → Rel N F w p e s a → Evo n0 F0 w0 p0 s0 F w p s → a.defers = ds →
      seqR P rs (fun e s => Q .normal e s) (fun v e s => Q (.pan v) e s) e s → wpListIn (WI none) 0 P ops (Post P N n0 Q F0 w0 p0 s0 ds) l a w
  | [], rs, F, w, p, e, s, a, hm, hr, hev, hds, h => by
    simp only [mapO, Option.some.injEq] at hm
    subst hm
    exact ⟨F, p, e, s, .normal, .normal, h, hr, hev, hds⟩
  | o :: l, rs, F, w, p, e, s, a, hm, hr, hev, hds, h => by
    simp only [mapO] at hm
    split at hm
    · rename_i r rs' hlo hml
      simp only [Option.some.injEq] at hm
      subst hm
      have hn := hev.nx
      obtain ⟨l1, l2, l3, l4⟩ := lite2_spec hlo
      have hd : ∀ (dst : Option Nat) (u : Value), (a.put dst u).defers = ds := fun dst u => by cases dst <;> exact hds
      have go : ∀ {u : Value} {e' : Env} {w' : World} {F' : Nat → Prop} {p' : Place} {s' : Store}, Rel N F' w' p' e' s' (a.put o.dst u) → Evo n0 F w p s F' w' p' s' → seqR P rs' (fun e s => Q .normal e s) (fun v e s => Q (.pan v) e s) e' s' →
          wpListIn (WI none) 0 P ops (Post P N n0 Q F0 w0 p0 s0 ds) l (a.put o.dst u) w' := fun g1 g2 g3 =>
        seq_sound l rs' _ _ _ _ _ _ hml g1 (hev.trans g2) (hd _ _) g3
      have goP : ∀ {u : Value} {v : AV} {w' : World} {F' : Nat → Prop} {p' : Place} {s' : Store}, Q (.pan v) e s' → VR F' w' p' (fun i => i < s'.nx) v u → Rel N F' w' p' e s' a → Evo n0 F w p s F' w' p' s' →
          Post P N n0 Q F0 w0 p0 s0 ds (.panic [{ v := u, recovered := false }]) a w' := fun g1 g2 g3 g4 => ⟨_, _, e, _, .pan _, .pan _ _ g2, g1, g3, hev.trans g4, hds⟩
      have hwant := wanted_of hr.env l2
      simp only [seqR] at h
      simp only [wpListIn]
      split at h
      · rename_i hg
        rw [if_pos (hwant.1 hg)]
        exact opR_sound hlo hr hn h (fun u v w' F' p' s' k1 k2 k3 => go k2 k3 k1) (fun u v w' F' p' s' k1 k2 k3 k4 => goP k1 k2 k3 k4)
      · rename_i g b hg
        split at h
        · rename_i t ht
          have hw := hwant.2 g b t hg ht
          have skip : ∀ (v : AV) (s' : Store), (s' = s ∨ s' = next s none) → seqR P rs' (fun e s => Q .normal e s) (fun v e s => Q (.pan v) e s) (put e r.dst (.opt false v)) s' →
              (∀ f, o.about P w a.eval = some f → (WI none).fn f) ∧ wpListIn (WI none) 0 P ops (Post P N n0 Q F0 w0 p0 s0 ds) l (a.put o.dst undef) w := by
            intro v s' hs' h'
            refine ⟨fun _ _ => trivial, ?_⟩
            rw [l3] at h'
            rcases hs' with rfl | rfl
            · obtain ⟨g1, g2⟩ := rel_skip (v := v) (dst := o.dst) hr hn l4
              exact go g1 g2 h'
            · obtain ⟨p', g1, g2⟩ := rel_next (v := v) (dst := o.dst) hr hn l4
              exact go g1 g2 h'
          split at h
          · rename_i hno
            obtain ⟨m, v, hm1, h1, h2⟩ := opG_cases h hno
            cases t with
            | true =>
              rw [if_pos hw]
              refine (ach_sound hr.sto (fun _ => Nat.lt_irrefl _) l1 (fun _ => rfl) (fun x _ y hy => vr_opd hr.sto.old hr.env hy) (h1 rfl)).wpIn (lite1_nodefer l1) ?_
              rintro u w' ⟨F', p', hp⟩
              have hp1 : PRm F w p (fun i => i < s.nx) s.nx 1 F' w' u [] (.opt true v) p' :=
                ⟨hp.grow, hp.inF, hp.newF, fun i hi => hp.keep i (by omega), fun id r hl => by simp [look] at hl, fun id id' r r' hl => by simp [look] at hl, .opt true v u (fun _ => vr_D hp.val fun i hi => hi.imp id (fun h => by omega)) (fun h => by cases h)⟩
              obtain ⟨g1, g2⟩ := rel_prm (a := a) (e := e) (dst := o.dst) hr hn l4 hp1
              rw [l3] at h2
              exact go g1 g2 h2
            | false =>
              rw [if_neg (by rw [hw]; simp)]
              exact skip v _ (.inr rfl) h2
          · rename_i hno
            cases t with
            | true =>
              rw [if_pos hw]
              exact opR_sound hlo hr hn (h.1 rfl) (fun u v w' F' p' s' k1 k2 k3 => go k2 k3 k1) (fun u v w' F' p' s' k1 k2 k3 k4 => goP k1 k2 k3 k4)
            | false =>
              rw [if_neg (by rw [hw]; simp)]
              exact skip .any _ (.inl rfl) (h.2 rfl)
        · exact h.elim
    · cases hm

theorem awp_reg {Q : AX → Env → Store → Prop} {id : Nat} {e : Env} {s : Store} {rs : List RP} (hm : mapO (lite2 P N ops) ops.toList = some rs) (h : seqR P rs (fun e s => Q .normal e s) (fun v e s => Q (.pan v) e s) e s) :
    awp P N n0 none (.region id ops false) Q e s := by
  intro F w p a hn hr
  exact wpIn_region_list (seq_sound _ _ F w p e s a hm hr (.refl hn) rfl h)
end
end Go.Proofs.YtggmkfagcjdifaaDoor.Ai
