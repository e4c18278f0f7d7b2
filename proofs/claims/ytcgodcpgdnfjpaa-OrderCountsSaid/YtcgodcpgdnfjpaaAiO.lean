/-
  Regions that run in order. Plain facts, no condition.
-/
import Derived.Test.YtcgodcpgdnfjpaaAiN
namespace Go.Proofs.Ytcgodcpgdnfjpaa.Ai
set_option linter.unusedSimpArgs false
set_option linter.unusedVariables false
set_option linter.unusedVariables false

structure RP where
  dst : Option Nat
  guard : Option (Nat × Bool)
  im : Bool
  op : ROp
  deriving Inhabited

def put (e : Env) : Option Nat → AV → Env
  | none, _ => e
  | some d, v => (d, v) :: e

def gvA (b : Bool) : AV → Option Bool
  | .bool c => some (c == b)
  | .opt d v => match gvA b v with
    | some c => some (d && c)
    | none => none
  | _ => none
def gv (e : Env) (t : Nat) (b : Bool) : Option Bool := gvA b (get e t)

def next (s : Store) (row : Option Row) : Store := ⟨s.nx + 1, push s.rows s.nx row⟩

/-- Operations that make no row. -/
def norow (im : Bool) : ROp → Bool
  | .st _ _ _ | .app _ _ _ _ _ | .cav _ _ | .alloc _ | .box _ | .s2b _ | .mks _ _ _ _ _ => false
  | .bslice _ _ _ _ => im
  | _ => true

def calC (P : Program) (e : Env) (f : FuncId) (xs : List Opd) (v : AV) : Prop :=
  allLv e xs ∧ (∀ x ∈ xs.map (sv e), Cl x) ∧ PCall P f (xs.map (sv e)) v

def opR (P : Program) (im : Bool) (op : ROp) (e : Env) (s : Store) (K : AV → Store → Prop) : Prop :=
  match op with
  | .st sz a x => lv e a ∧ lv e x ∧ stC s.rows sz (sv e a) (sv e x) ∧ K .any ⟨s.nx + 1, stR s.rows (sv e a) (sv e x)⟩
  | .app sz bytes z x y => lv e x ∧ lv e y ∧ appC s.rows sz bytes z (sv e x) (sv e y) ∧ K (appV s.rows sz s.nx (sv e x) (sv e y)) ⟨s.nx + 1, appR s.rows sz s.nx (sv e x) (sv e y)⟩
  | .cal f xs => ∃ v, calC P e f xs v ∧ K v (next s none)
  | .cav f xs => lv e f ∧ allLv e xs ∧ match sv e f with
    | .fn (.func g) a b => ∃ v, ((∀ x ∈ a ++ xs.map (sv e) ++ b, Cl x) ∧ PCall P g (a ++ xs.map (sv e) ++ b) v) ∧ K v (next s none)
    | _ => False
  | .bslice sz n z ps => (z.length = sz ∧ n * sz ≤ 2 ^ 24 ∧ elemsC e sz n ps) ∧ (match im with
    | true => 0 < n ∧ K (.ros sz (elemsV e (List.replicate n z) ps)) (next s none)
    | false => K (.sl s.nx sz 0 n (some n)) (next s (some ⟨sz, elemsV e (List.replicate n z) ps⟩)))
  | op => pcond e s.rows op ∧ K (pval e s.rows s.nx op) (next s (prow e s.rows op))

def opG (P : Program) (t : Bool) (op : ROp) (e : Env) (s : Store) (K : AV → Prop) : Prop :=
  match op with
  | .cal f xs => ∃ v, (t = true → calC P e f xs v) ∧ K v
  | .bslice sz n z ps => (t = true → (z.length = sz ∧ n * sz ≤ 2 ^ 24 ∧ elemsC e sz n ps) ∧ 0 < n) ∧ K (.ros sz (elemsV e (List.replicate n z) ps))
  | op => (t = true → pcond e s.rows op) ∧ K (pval e s.rows s.nx op)

def seqR (P : Program) : List RP → (Env → Store → Prop) → Env → Store → Prop
  | [], K, e, s => K e s
  | o :: l, K, e, s =>
    match o.guard with
    | none => opR P o.im o.op e s fun v s' => seqR P l K (put e o.dst v) s'
    | some (g, b) => match gv e g b with
      | some t => match norow o.im o.op with
        | true => opG P t o.op e s fun v => seqR P l K (put e o.dst (.opt t v)) (next s none)
        | false => (t = true → opR P o.im o.op e s fun v s' => seqR P l K (put e o.dst v) s') ∧ (t = false → seqR P l K (put e o.dst (.opt false .any)) s)
      | none => False

section
variable {P : Program} {N n0 : Nat} {F : Nat → Prop} {w : World} {p : Place} {e : Env} {s : Store} {a : Act}

theorem get_put (e : Env) (dst : Option Nat) (v : AV) (t : Nat) : get (put e dst v) t = if dst = some t then v else get e t := by
  cases dst with
  | none => simp [put]
  | some d =>
    simp only [put, get, Option.some.injEq]
    by_cases h : d = t <;> simp [h, beq_false_of_ne]

theorem getD_put' (a : Act) (dst : Option Nat) (u : Value) (t : Nat) (h : ∀ d, dst = some d → d < a.tmps.size) : (a.put dst u).tmps.getD t undef = if dst = some t then u else a.tmps.getD t undef := by
  cases dst with
  | none => simp [Act.put]
  | some d =>
    have hd := h d rfl
    simp only [Act.put, Option.some.injEq, Array.getD_eq_getD_getElem?, Array.getElem?_setIfInBounds]
    by_cases hdt : d = t
    · subst hdt; simp [hd]
    · simp [hdt]

theorem ERel.put {F' : Nat → Prop} {w' : World} {p' : Place} {D D' : Nat → Prop} {dst : Option Nat} {v : AV} {u : Value} (h : ERel N F w p D e a.tmps) (hd : ∀ d, dst = some d → d < N)
    (keep : ∀ (v0 : AV) (u0 : Value), VR F w p D v0 u0 → VR F' w' p' D' v0 u0) (hv : VR F' w' p' D' v u) : ERel N F' w' p' D' (put e dst v) (a.put dst u).tmps := by
  refine ⟨?_, fun t => ?_⟩
  · cases dst <;> simp [Act.put, h.size]
  · rw [get_put, getD_put' _ _ _ _ (fun d hdd => by rw [h.size]; exact hd d hdd)]
    split
    · exact hv
    · exact keep _ _ (h.val t)

/-- After an operation that leaves the old memory as it was. -/
theorem rel_pr {F' : Nat → Prop} {w' : World} {u : Value} {row : Option Row} {v : AV} {dst : Option Nat} (hr : Rel N F w p e s a) (hn : n0 ≤ s.nx) (hd : ∀ d, dst = some d → d < N)
    (h : PR F w p (fun i => i < s.nx) s.nx F' w' u row v) :
    ∃ p', Rel N F' w' p' (put e dst v) (next s row) (a.put dst u) ∧ Evo n0 F w p s F' w' p' (next s row) := by
  have hs := hr.sto
  have hk : ¬ (s.nx < s.nx) := Nat.lt_irrefl _
  have hpo : ∀ i, i < s.nx → upd p s.nx (w.heap.size, 0) i = p i := upd_of hk
  have hkk : (upd p s.nx (w.heap.size, 0)) s.nx = (w.heap.size, 0) := by simp [upd]
  have keep : ∀ (v0 : AV) (u0 : Value), VR F w p (fun i => i < s.nx) v0 u0 → VR F' w' (upd p s.nx (w.heap.size, 0)) (fun i => i < s.nx + 1) v0 u0 := fun v0 u0 h0 =>
    h0.mono h.inF (fun b hb => h.grow.same b (hs.old b hb)) (fun b c t fz hb => ⟨c, t, fz, h.grow.cells hb, rfl⟩) hpo (fun i hi => Nat.lt_succ_of_lt hi)
  have notF : ∀ b, b < w.heap.size → ¬ F b → ¬ F' b := fun b hb hF hF' => (h.newF b hF').elim hF (fun h => by omega)
  have lt : ∀ id r, look s.rows id = some r → id < s.nx ∧ (p id).1 < w.heap.size := by
    intro id r hl
    obtain ⟨h1, _, ⟨c, t, fz, hb, _⟩, _⟩ := hs.row id r hl
    exact ⟨h1, lt_of_heap hb⟩
  have conv : ∀ {v : AV} {u : Value}, VR F' w' (upd p s.nx (w.heap.size, 0)) (fun i => i < s.nx ∨ i = s.nx) v u → VR F' w' (upd p s.nx (w.heap.size, 0)) (fun i => i < s.nx + 1) v u := fun h =>
    h.mono (fun _ h => h) (fun _ _ => rfl) (fun b c t fz hb => ⟨c, t, fz, hb, rfl⟩) (fun _ _ => rfl) (fun i hi => by omega)
  have hold : ∀ id r, look s.rows id = some r → id < s.nx + 1 ∧ ¬ F' (upd p s.nx (w.heap.size, 0) id).1 ∧ RowOK F' w' (upd p s.nx (w.heap.size, 0)) (fun i => i < s.nx + 1) r (upd p s.nx (w.heap.size, 0) id).1 (upd p s.nx (w.heap.size, 0) id).2 := by
    intro id r hl
    obtain ⟨h1, h2, ⟨c, t, fz, hb, hf, hrr, hv⟩, hsz⟩ := hs.row id r hl
    rw [hpo id h1]
    exact ⟨Nat.lt_succ_of_lt h1, notF _ (lt id r hl).2 h2, ⟨c, t, fz, h.grow.cells hb, hf, hrr, fun i x j v hx hj => keep _ _ (hv i x j v hx hj)⟩, hsz⟩
  have hcase : ∀ id r, look (push s.rows s.nx row) id = some r → (id = s.nx ∧ row = some r) ∨ look s.rows id = some r := by
    intro id r hl
    cases row with
    | none => exact .inr hl
    | some r1 =>
      simp only [push, look_cons] at hl
      split at hl
      · rename_i hid; exact .inl ⟨hid, hl⟩
      · exact .inr hl
  refine ⟨upd p s.nx (w.heap.size, 0), ⟨hr.env.put hd keep (conv h.val), ⟨?_, ?_, ?_⟩⟩, ?_⟩
  · intro id r hl
    rcases hcase id r hl with ⟨rfl, rfl⟩ | hl
    · obtain ⟨h1, h2, h3⟩ := h.nrow r rfl
      rw [hkk]
      refine ⟨Nat.lt_succ_self _, h1, ?_⟩
      obtain ⟨⟨c, t, fz, hb, hf, hrr, hv⟩, hsz⟩ := h2
      exact ⟨⟨c, t, fz, hb, hf, hrr, fun i x j v hx hj => conv (hv i x j v hx hj)⟩, hsz⟩
    · exact hold id r hl
  · intro id id' r r' hl hl' hne
    rcases hcase id r hl with ⟨rfl, rfl⟩ | hl <;> rcases hcase id' r' hl' with ⟨rfl, hrow⟩ | hl'
    · exact absurd rfl hne
    · have := lt id' r' hl'
      rw [hkk, hpo _ this.1]; exact fun e => by have := this.2; omega
    · have := lt id r hl
      rw [hkk, hpo _ this.1]; exact fun e => by have := this.2; omega
    · rw [hpo _ (lt id r hl).1, hpo _ (lt id' r' hl').1]
      exact hs.apart id id' r r' hl hl' hne
  · intro b hb
    rcases h.newF b hb with h1 | h1
    · exact Nat.lt_of_lt_of_le (hs.old b h1) h.grow.size
    · exact h1.2
  · refine ⟨h.grow.os, h.grow.tape, h.grow.output, h.grow.size, fun b hb _ => h.grow.same b hb, fun b c t fz hb => ⟨c, t, fz, h.grow.cells hb, rfl⟩, h.inF, fun b hb => (h.newF b hb).imp (fun h => h) (fun h => .inl h.1), ?_,
      fun id hid => hpo id (Nat.lt_of_lt_of_le hid hn), Nat.le_succ_of_le hn⟩
    rintro b ⟨id, r, hl, rfl⟩
    rcases hcase id r hl with ⟨rfl, rfl⟩ | hl
    · left; rw [hkk]; exact Nat.le_refl _
    · right; rw [hpo _ (lt id r hl).1]; exact ⟨id, r, hl, rfl⟩

/-- After an operation that writes. -/
theorem rel_eff {w' : World} {u : Value} {rows' : Rows} {v : AV} {dst : Option Nat} (hr : Rel N F w p e s a) (hn : n0 ≤ s.nx) (hd : ∀ d, dst = some d → d < N)
    (h : Eff F w p (fun i => i < s.nx) s.rows s.nx w' u rows' v) :
    ∃ p', Rel N F w' p' (put e dst v) ⟨s.nx + 1, rows'⟩ (a.put dst u) ∧ Evo n0 F w p s F w' p' ⟨s.nx + 1, rows'⟩ := by
  have hs := hr.sto
  obtain ⟨p', hp, h1, h2, h3⟩ := h.st
  have hD : (fun i => i < s.nx ∨ i = s.nx) = fun i => i < s.nx + 1 := by funext i; apply propext; omega
  rw [hD] at h1 h2
  refine ⟨p', ⟨hr.env.put hd (fun v0 u0 h0 => h.env hs hp (fun i hi => Nat.lt_succ_of_lt hi) h0) h2, h1⟩, ?_⟩
  refine ⟨h.os, h.tape, h.output, h.size, fun b hb hnr => h.same b hb (fun ⟨id, r, hl, he⟩ => hnr ⟨id, r, hl, he⟩), h.cells, fun _ h => h, fun _ h => .inl h, ?_, fun id hid => hp id (Nat.lt_of_lt_of_le hid hn), Nat.le_succ_of_le hn⟩
  rintro b ⟨id, r, hl, rfl⟩
  rcases h3 id r hl with h4 | ⟨id0, r0, h4, h5⟩
  · exact .inl h4
  · exact .inr ⟨id0, r0, h4, h5⟩

/-- An operation that is skipped. -/
theorem rel_skip {v : AV} {dst : Option Nat} (hr : Rel N F w p e s a) (hn : n0 ≤ s.nx) (hd : ∀ d, dst = some d → d < N) :
    Rel N F w p (put e dst (.opt false v)) s (a.put dst undef) ∧ Evo n0 F w p s F w p s :=
  ⟨⟨hr.env.put hd (fun _ _ h => h) (.opt false v undef (fun h => by cases h) (fun _ => rfl)), hr.sto⟩, .refl hn⟩

theorem rel_next {v : AV} {dst : Option Nat} (hr : Rel N F w p e s a) (hn : n0 ≤ s.nx) (hd : ∀ d, dst = some d → d < N) :
    ∃ p', Rel N F w p' (put e dst (.opt false v)) (next s none) (a.put dst undef) ∧ Evo n0 F w p s F w p' (next s none) := by
  have h : PR F w p (fun i => i < s.nx) s.nx F w undef none (.opt false v) :=
    ⟨.refl w, fun _ h => h, fun _ h => .inl h, fun r hr => (by cases hr), .opt false v undef (fun h => by cases h) (fun _ => rfl)⟩
  exact rel_pr hr hn hd h
end

/-- How an operation is looked up: the guard's temporary, the types. -/
def imB (ops : Array Oper) (d : Option Tmp) : Bool :=
  match d with
  | some t => ops.any fun o => match o.op with
    | .call ⟨.value _, args, _⟩ => args.any fun | .tmp u => u == t | _ => false
    | .call ⟨.builtin .append, args, _⟩ => match args.toList with | [_, .tmp u] => u == t | _ => false
    | _ => false
  | none => false
def liteG (ops : Array Oper) : Option (Nat × Bool) → Option (Option (Nat × Bool))
  | none => some none
  | some (j, b) => ((ops[j]?).bind (·.dst)).map fun t => some (t, b)
def dstOK (N : Nat) : Option Nat → Bool
  | none => true
  | some d => decide (d < N)
def lite2 (P : Program) (N : Nat) (ops : Array Oper) (o : Oper) : Option RP :=
  match lite1 P o.op, liteG ops o.guard with
  | some r, some g => bif dstOK N o.dst then some ⟨o.dst, g, imB ops o.dst, r⟩ else none
  | _, _ => none

theorem lite1_nodefer {P : Program} {op : Op} {r : ROp} (h : lite1 P op = some r) : ∀ c, op ≠ .defer c := by
  rintro c rfl
  simp [lite1, liteE, liteOp] at h

theorem lite2_spec {P : Program} {N : Nat} {ops : Array Oper} {o : Oper} {r : RP} (h : lite2 P N ops o = some r) :
    lite1 P o.op = some r.op ∧ liteG ops o.guard = some r.guard ∧ r.dst = o.dst ∧ (∀ d, o.dst = some d → d < N) := by
  unfold lite2 at h
  split at h
  · rename_i x g h1 h2
    cases hd : dstOK N o.dst with
    | false => rw [hd] at h; cases h
    | true =>
      rw [hd] at h
      simp only [cond_true, Option.some.injEq] at h
      subst h
      refine ⟨h1, h2, rfl, fun d hdd => ?_⟩
      rw [hdd] at hd
      simpa [dstOK] using hd
  · cases h

def asB : Value → Option Bool
  | .bool b => some b
  | _ => none

theorem gvA_sound {F : Nat → Prop} {w : World} {p : Place} {D : Nat → Prop} {b : Bool} : ∀ {v : AV} {u : Value} {c : Bool}, VR F w p D v u → gvA b v = some c → (asB u == some b) = c
  | v, u, c, h, hc => by
    induction h generalizing c with
    | bool q => simp only [gvA, Option.some.injEq] at hc; subst hc; cases q <;> cases b <;> rfl
    | opt d v' u h1 h2 ih =>
      simp only [gvA] at hc
      split at hc
      · rename_i c' hc'
        simp only [Option.some.injEq] at hc; subst hc
        cases d with
        | false => rw [h2 rfl]; rfl
        | true => rw [Bool.true_and]; exact ih rfl _ hc'
      · cases hc
    | _ => simp [gvA] at hc

/-- Whether an operation is wanted. -/
theorem wanted_of {N : Nat} {F : Nat → Prop} {w : World} {p : Place} {D : Nat → Prop} {e : Env} {ops : Array Oper} {o : Oper} {a : Act} {g : Option (Nat × Bool)} (he : ERel N F w p D e a.tmps) (hg : liteG ops o.guard = some g) :
    (g = none → Region.wanted o (yielded ops a.tmps) = true) ∧ (∀ t b c, g = some (t, b) → gv e t b = some c → Region.wanted o (yielded ops a.tmps) = c) := by
  refine ⟨fun h => ?_, fun t b c h hc => ?_⟩
  · subst h
    cases ho : o.guard with
    | none => simp [Region.wanted, ho]
    | some x =>
      obtain ⟨j, b⟩ := x
      rw [ho] at hg
      simp only [liteG, Option.map_eq_some_iff] at hg
      obtain ⟨_, _, h⟩ := hg
      cases h
  · subst h
    cases ho : o.guard with
    | none => rw [ho] at hg; simp [liteG] at hg
    | some x =>
      obtain ⟨j, b'⟩ := x
      rw [ho] at hg
      simp only [liteG, Option.map_eq_some_iff, Option.some.injEq, Prod.mk.injEq] at hg
      obtain ⟨t', hj, rfl, rfl⟩ := hg
      simp only [Region.wanted, ho, yielded, hj, Option.bind_some]
      have hv := he.val t'
      have h1 := gvA_sound hv hc
      have h2 : asB (a.tmps.getD t' undef) = (match a.tmps[t']? with | some (.bool b) => some b | _ => none) := by
        rw [Array.getD_eq_getD_getElem?]
        cases a.tmps[t']? with
        | none => rfl
        | some y => cases y <;> rfl
      rw [h2] at h1
      exact h1

theorem opR_cases {P : Program} {im : Bool} {op : ROp} {e : Env} {s : Store} {K : AV → Store → Prop} (h : opR P im op e s K) :
    (∃ row v, achR P im op e s.rows s.nx row v ∧ K v (next s row)) ∨
    (∃ sz a x, op = .st sz a x ∧ lv e a ∧ lv e x ∧ stC s.rows sz (sv e a) (sv e x) ∧ K .any ⟨s.nx + 1, stR s.rows (sv e a) (sv e x)⟩) ∨
    (∃ sz bytes z x y, op = .app sz bytes z x y ∧ lv e x ∧ lv e y ∧ appC s.rows sz bytes z (sv e x) (sv e y) ∧ K (appV s.rows sz s.nx (sv e x) (sv e y)) ⟨s.nx + 1, appR s.rows sz s.nx (sv e x) (sv e y)⟩) := by
  cases op <;> try exact .inl ⟨_, _, ⟨h.1, rfl, rfl⟩, h.2⟩
  case bslice sz n z ps =>
    obtain ⟨h1, h2⟩ := h
    cases im with
    | true => exact .inl ⟨none, _, ⟨h1, .inr ⟨rfl, h2.1, rfl, rfl⟩⟩, h2.2⟩
    | false => exact .inl ⟨_, _, ⟨h1, .inl ⟨rfl, rfl, rfl⟩⟩, h2⟩
  case st sz a x => exact .inr (.inl ⟨sz, a, x, rfl, h⟩)
  case app sz b z x y => exact .inr (.inr ⟨sz, b, z, x, y, rfl, h⟩)
  case cal f xs =>
    obtain ⟨v, h1, h2⟩ := h
    exact .inl ⟨none, v, ⟨rfl, h1⟩, h2⟩
  case cav f xs =>
    obtain ⟨h0, h1, h2⟩ := h
    split at h2
    · rename_i g a b hg
      obtain ⟨v, h3, h4⟩ := h2
      exact .inl ⟨none, v, ⟨rfl, h0, h1, g, a, b, hg, h3⟩, h4⟩
    · exact h2.elim

theorem opG_cases {P : Program} {im t : Bool} {op : ROp} {e : Env} {s : Store} {K : AV → Prop} (h : opG P t op e s K) (hn : norow im op = true) :
    ∃ v, (t = true → achR P im op e s.rows s.nx none v) ∧ K v := by
  cases op <;> simp only [norow, reduceCtorEq] at hn <;> try exact ⟨_, fun ht => ⟨h.1 ht, rfl, rfl⟩, h.2⟩
  case bslice sz n z ps => exact ⟨_, fun ht => ⟨(h.1 ht).1, .inr ⟨hn, (h.1 ht).2, rfl, rfl⟩⟩, h.2⟩
  case cal f xs =>
    obtain ⟨v, h1, h2⟩ := h
    exact ⟨v, fun ht => ⟨rfl, h1 ht⟩, h2⟩

section
variable {P : Program} {N n0 : Nat} {ops : Array Oper}

/-- One operation, run. -/
theorem opR_sound {F : Nat → Prop} {w : World} {p : Place} {e : Env} {s : Store} {a : Act} {o : Oper} {r : RP} {K : AV → Store → Prop} {nx : Act → World → Prop} {Q : Exit → Act → World → Prop}
    (hl : lite2 P N ops o = some r) (hr : Rel N F w p e s a) (hn : n0 ≤ s.nx) (h : opR P r.im r.op e s K)
    (hK : ∀ u v w' F' p' s', K v s' → Rel N F' w' p' (put e r.dst v) s' (a.put o.dst u) → Evo n0 F w p s F' w' p' s' → nx (a.put o.dst u) w') : o.wpIn (WI none) 0 P a w nx Q := by
  obtain ⟨l1, l2, l3, l4⟩ := lite2_spec hl
  have ho : ∀ x ∈ o.op.operands, ∀ y, opd x = some y → VR F w p (fun i => i < s.nx) (ev e y) (a.eval x) := fun x _ y hy => vr_opd hr.env hy
  have hk : ¬ (s.nx < s.nx) := Nat.lt_irrefl _
  rcases opR_cases h with ⟨row, v, h1, h2⟩ | ⟨sz, x, y, hop, h1, h2, h3, h4⟩ | ⟨sz, by', z, x, y, hop, h1, h2, h3, h4⟩
  · refine (ach_sound hr.sto hk l1 ho h1).wpIn (lite1_nodefer l1) ?_
    rintro u w' ⟨F', hp⟩
    obtain ⟨p', g1, g2⟩ := rel_pr (a := a) (e := e) (dst := o.dst) hr hn l4 hp
    rw [← l3] at g1
    exact hK u v w' F' p' _ h2 (by rw [l3] at g1 ⊢; exact g1) g2
  · rw [hop] at l1
    rcases lite1_cases l1 with l1' | ⟨_, hp⟩
    · obtain ⟨dst, op, ty, pos, after, guard⟩ := o
      cases op <;> simp only [liteE, reduceCtorEq] at l1'
      case binOp =>
        simp only [Option.bind_eq_some_iff, Option.some.injEq] at l1'
        obtain ⟨_, _, _, _, _, _, _, _, l1'⟩ := l1'
        cases l1'
      case store t ax xx =>
        simp only [Option.bind_eq_some_iff, Option.some.injEq, ROp.st.injEq] at l1'
        obtain ⟨n, hz, a', ha, x', hx, rfl, rfl, rfl⟩ := l1'
        obtain ⟨w', g1, g2⟩ := st_sound (k := s.nx) hr.sto hz ((ho ax (by simp [Op.operands]) a' ha).sv h1) ((ho xx (by simp [Op.operands]) x' hx).sv h2) h3
        refine Does.wpIn (R := fun u w' => Eff F w p (fun i => i < s.nx) s.rows s.nx w' u (stR s.rows (sv e a') (sv e x')) .any) (lite1_nodefer (r := .st n a' x') (by rw [← hop]; exact (hop ▸ l1))) (.skip w' (by simp [execOp, g1]) g2) ?_
        intro u w'' hE
        obtain ⟨p', k1, k2⟩ := rel_eff (a := a) (dst := dst) hr hn l4 hE
        exact hK u .any w'' F p' _ h4 (by rw [l3]; exact k1) k2
      case call c =>
        obtain ⟨callee, args, ats⟩ := c
        exfalso
        cases callee with
        | invoke r m => cases l1'
        | builtin b =>
          cases b <;> simp only [reduceCtorEq] at l1'
          split at l1'
          · simp only [Option.bind_eq_some_iff] at l1'
            obtain ⟨_, _, _, _, l1'⟩ := l1'
            split at l1'
            · simp only [Option.bind_eq_some_iff, Option.some.injEq] at l1'
              obtain ⟨_, _, _, _, l1'⟩ := l1'
              cases l1'
            · cases l1'
          · cases l1'
        | value f =>
          cases f <;> simp only [Option.map_eq_some_iff, reduceCtorEq] at l1'
          · obtain ⟨_, _, h⟩ := l1'; cases h
          · obtain ⟨_, _, h⟩ := l1'; cases h
    · cases hp
  · rw [hop] at l1
    rcases lite1_cases l1 with l1' | ⟨_, hp⟩
    · obtain ⟨dst, op, ty, pos, after, guard⟩ := o
      cases op <;> simp only [liteE, reduceCtorEq] at l1'
      case binOp =>
        simp only [Option.bind_eq_some_iff, Option.some.injEq] at l1'
        obtain ⟨_, _, _, _, _, _, _, _, l1'⟩ := l1'
        cases l1'
      case store t ax xx =>
        simp only [Option.bind_eq_some_iff, Option.some.injEq] at l1'
        obtain ⟨_, _, _, _, _, _, l1'⟩ := l1'
        cases l1'
      case call c =>
        obtain ⟨callee, args, ats⟩ := c
        have hops : ∀ x ∈ args, ∀ y, opd x = some y → VR F w p (fun i => i < s.nx) (ev e y) (a.eval x) := fun x hx => ho x (by simp [Op.operands, Call.operands, hx])
        cases callee with
        | invoke r m => cases l1'
        | builtin b =>
          cases b <;> simp only [reduceCtorEq] at l1'
          split at l1'
          · rename_i x0 y0 hargs
            simp only [Option.bind_eq_some_iff] at l1'
            obtain ⟨x1, hx1, y1, hy1, l1'⟩ := l1'
            split at l1'
            · rename_i el el' hu0 hu1
              simp only [Option.bind_eq_some_iff, Option.some.injEq, ROp.app.injEq] at l1'
              obtain ⟨ti, hi, z', hz', rfl, rfl, rfl, rfl, rfl⟩ := l1'
              obtain ⟨t0, ht0, hu0⟩ := Option.bind_eq_some_iff.1 hu0
              obtain ⟨t1, ht1, hu1⟩ := Option.bind_eq_some_iff.1 hu1
              have hargs' : args = #[x0, y0] := by apply Array.ext'; simpa using hargs
              subst hargs'
              obtain ⟨u, w', g1, g2⟩ := app_sound (ty := ty) (k := s.nx) hr.sto hk ht0 ht1 hu0 hu1 hi hz' ((hops x0 (by simp) x1 hx1).sv h1) ((hops y0 (by simp) y1 hy1).sv h2) h3
              refine Does.wpIn (R := fun u w' => Eff F w p (fun i => i < s.nx) s.rows s.nx w' u (appR s.rows ti.size s.nx (sv e x1) (sv e y1)) (appV s.rows ti.size s.nx (sv e x1) (sv e y1))) (fun c h => by cases h) (.value u w' ?_ g2) ?_
              · simp only [execOp, resolve, Sem.run_bind, Sem.run_pure, Result.andThen_ok, invoke, builtin]
                have : (#[x0, y0] : Array Operand).map a.eval = #[a.eval x0, a.eval y0] := by simp
                rw [this, g1]
                rfl
              · intro u w'' hE
                obtain ⟨p', k1, k2⟩ := rel_eff (a := a) (dst := dst) hr hn l4 hE
                exact hK u _ w'' F p' _ h4 (by rw [l3]; exact k1) k2
            · cases l1'
          · cases l1'
        | value f =>
          cases f <;> simp only [Option.map_eq_some_iff, reduceCtorEq] at l1'
          · obtain ⟨_, _, h⟩ := l1'; cases h
          · obtain ⟨_, _, h⟩ := l1'; cases h
    · cases hp

theorem seq_sound {Q : Exit → Env → Store → Prop} {F0 : Nat → Prop} {w0 : World} {p0 : Place} {s0 : Store} {ds : List Deferred} :
    ∀ (l : List Oper) (rs : List RP) (F : Nat → Prop) (w : World) (p : Place) (e : Env) (s : Store) (a : Act), mapO (lite2 P N ops) l = some rs → Rel N F w p e s a → Evo n0 F0 w0 p0 s0 F w p s → a.defers = ds →
      seqR P rs (fun e s => Q .normal e s) e s → wpListIn (WI none) 0 P ops (Post P N n0 Q F0 w0 p0 s0 ds) l a w
  | [], rs, F, w, p, e, s, a, hm, hr, hev, hds, h => by
    simp only [mapO, Option.some.injEq] at hm
    subst hm
    exact ⟨F, p, e, s, h, hr, hev, hds⟩
  | o :: l, rs, F, w, p, e, s, a, hm, hr, hev, hds, h => by
    simp only [mapO] at hm
    split at hm
    · rename_i r rs' hlo hml
      simp only [Option.some.injEq] at hm
      subst hm
      have hn := hev.nx
      obtain ⟨l1, l2, l3, l4⟩ := lite2_spec hlo
      have hd : ∀ (dst : Option Nat) (u : Value), (a.put dst u).defers = ds := fun dst u => by cases dst <;> exact hds
      have go : ∀ {u : Value} {e' : Env} {w' : World} {F' : Nat → Prop} {p' : Place} {s' : Store}, Rel N F' w' p' e' s' (a.put o.dst u) → Evo n0 F w p s F' w' p' s' → seqR P rs' (fun e s => Q .normal e s) e' s' →
          wpListIn (WI none) 0 P ops (Post P N n0 Q F0 w0 p0 s0 ds) l (a.put o.dst u) w' := fun g1 g2 g3 =>
        seq_sound l rs' _ _ _ _ _ _ hml g1 (hev.trans g2) (hd _ _) g3
      have hwant := wanted_of hr.env l2
      simp only [seqR] at h
      simp only [wpListIn]
      split at h
      · rename_i hg
        rw [if_pos (hwant.1 hg)]
        exact opR_sound hlo hr hn h fun u v w' F' p' s' k1 k2 k3 => go k2 k3 k1
      · rename_i g b hg
        split at h
        · rename_i t ht
          have hw := hwant.2 g b t hg ht
          have skip : ∀ (v : AV) (s' : Store), (s' = s ∨ s' = next s none) → seqR P rs' (fun e s => Q .normal e s) (put e r.dst (.opt false v)) s' →
              (∀ f, o.about P w a.eval = some f → (WI none).fn f) ∧ wpListIn (WI none) 0 P ops (Post P N n0 Q F0 w0 p0 s0 ds) l (a.put o.dst undef) w := by
            intro v s' hs' h'
            refine ⟨fun _ _ => trivial, ?_⟩
            rw [l3] at h'
            rcases hs' with rfl | rfl
            · obtain ⟨g1, g2⟩ := rel_skip (v := v) (dst := o.dst) hr hn l4
              exact go g1 g2 h'
            · obtain ⟨p', g1, g2⟩ := rel_next (v := v) (dst := o.dst) hr hn l4
              exact go g1 g2 h'
          split at h
          · rename_i hno
            obtain ⟨v, h1, h2⟩ := opG_cases h hno
            cases t with
            | true =>
              rw [if_pos hw]
              refine (ach_sound hr.sto (Nat.lt_irrefl _) l1 (fun x _ y hy => vr_opd hr.env hy) (h1 rfl)).wpIn (lite1_nodefer l1) ?_
              rintro u w' ⟨F', hp⟩
              have hp' : PR F w p (fun i => i < s.nx) s.nx F' w' u none (.opt true v) := { hp with val := .opt true v u (fun _ => hp.val) (fun h => by cases h) }
              obtain ⟨p', g1, g2⟩ := rel_pr (a := a) (e := e) (dst := o.dst) hr hn l4 hp'
              rw [l3] at h2
              exact go g1 g2 h2
            | false =>
              rw [if_neg (by rw [hw]; simp)]
              exact skip v _ (.inr rfl) h2
          · rename_i hno
            cases t with
            | true =>
              rw [if_pos hw]
              exact opR_sound hlo hr hn (h.1 rfl) fun u v w' F' p' s' k1 k2 k3 => go k2 k3 k1
            | false =>
              rw [if_neg (by rw [hw]; simp)]
              exact skip .any _ (.inl rfl) (h.2 rfl)
        · exact h.elim
    · cases hm

theorem awp_reg {Q : Exit → Env → Store → Prop} {id : Nat} {e : Env} {s : Store} {rs : List RP} (hm : mapO (lite2 P N ops) ops.toList = some rs) (h : seqR P rs (fun e s => Q .normal e s) e s) :
    awp P N n0 none (.region id ops false) Q e s := by
  intro F w p a hn hr
  exact wpIn_region_list (seq_sound _ _ F w p e s a hm hr (.refl hn) rfl h)
end
end Go.Proofs.Ytcgodcpgdnfjpaa.Ai
