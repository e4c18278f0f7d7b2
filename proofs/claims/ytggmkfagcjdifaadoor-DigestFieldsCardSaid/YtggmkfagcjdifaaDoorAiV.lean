/-
  Functions, evaluated on abstract values: what the evaluation gives, the call does. Plain facts, no condition.
-/
import Derived.Test.YtggmkfagcjdifaaDoorAiU
namespace Go.Proofs.YtggmkfagcjdifaaDoor.Ai
set_option linter.unusedSimpArgs false
set_option linter.unusedVariables false
set_option linter.unnecessarySimpa false
set_option linter.unusedSectionVars false
set_option linter.unusedVariables false

/-! ### Values, laid open (so that the kernel carries small terms) -/
def fN {α : Type} (n : Nat) (K : Nat → α) : α := match n with
  | 0 => K 0
  | p + 1 => K (p + 1)
theorem fN_eq {α : Type} (n : Nat) (K : Nat → α) : fN n K = K n := by cases n <;> rfl
def fI {α : Type} (n : Int) (K : Int → α) : α := match n with
  | .ofNat p => fN p fun p => K (.ofNat p)
  | .negSucc p => fN p fun p => K (.negSucc p)
theorem fI_eq {α : Type} (n : Int) (K : Int → α) : fI n K = K n := by cases n <;> simp only [fI, fN_eq]
def fB {α : Type} (b : Bool) (K : Bool → α) : α := match b with
  | true => K true
  | false => K false
theorem fB_eq {α : Type} (b : Bool) (K : Bool → α) : fB b K = K b := by cases b <;> rfl
def fK {α : Type} (k : IntKind) (K : IntKind → α) : α := match k with
  | .i8 => K .i8 | .i16 => K .i16 | .i32 => K .i32 | .i64 => K .i64 | .u8 => K .u8 | .u16 => K .u16 | .u32 => K .u32 | .u64 => K .u64
theorem fK_eq {α : Type} (k : IntKind) (K : IntKind → α) : fK k K = K k := by cases k <;> rfl
def fO {α : Type} (o : Option Nat) (K : Option Nat → α) : α := match o with
  | none => K none
  | some n => fN n fun n => K (some n)
theorem fO_eq {α : Type} (o : Option Nat) (K : Option Nat → α) : fO o K = K o := by cases o <;> simp only [fO, fN_eq]
def fW {α : Type} (f : AV → (AV → α) → α) : List AV → (List AV → α) → α
  | [], K => K []
  | x :: l, K => f x fun x => fW f l fun l => K (x :: l)
def fWW {α : Type} (f : AV → (AV → α) → α) : List (List AV) → (List (List AV) → α) → α
  | [], K => K []
  | x :: l, K => fW f x fun x => fWW f l fun l => K (x :: l)
theorem fW_eq {α : Type} {f : AV → (AV → α) → α} (h : ∀ v K, f v K = K v) : ∀ (l : List AV) (K : List AV → α), fW f l K = K l
  | [], K => rfl
  | x :: l, K => by simp only [fW, h, fW_eq h l]
theorem fWW_eq {α : Type} {f : AV → (AV → α) → α} (h : ∀ v K, f v K = K v) : ∀ (l : List (List AV)) (K : List (List AV) → α), fWW f l K = K l
  | [], K => rfl
  | x :: l, K => by simp only [fWW, fW_eq h x, fWW_eq h l]
def fVn {α : Type} : Nat → AV → (AV → α) → α
  | 0, v, K => K v
  | n + 1, v, K => match v with
    | .bool b => fB b fun b => K (.bool b)
    | .int k m => fK k fun k => fI m fun m => K (.int k m)
    | .agg cs => fW (fVn n) cs fun cs => K (.agg cs)
    | .tup cs => fW (fVn n) cs fun cs => K (.tup cs)
    | .ros sz es => fWW (fVn n) es fun es => K (.ros sz es)
    | .rop cs => fW (fVn n) cs fun cs => K (.rop cs)
    | .sl id sz i m c => fN id fun id => fN i fun i => fN m fun m => fO c fun c => K (.sl id sz i m c)
    | .pt id sz i o => fN id fun id => fN i fun i => fN o fun o => K (.pt id sz i o)
    | .fn f xs ys => fW (fVn n) xs fun xs => fW (fVn n) ys fun ys => K (.fn f xs ys)
    | .ifc t v => fVn n v fun v => K (.ifc t v)
    | .opt t v => fB t fun t => fVn n v fun v => K (.opt t v)
    | v => K v
theorem fVn_eq {α : Type} : ∀ (n : Nat) (v : AV) (K : AV → α), fVn n v K = K v
  | 0, v, K => rfl
  | n + 1, v, K => by cases v <;> simp only [fVn, fB_eq, fK_eq, fI_eq, fN_eq, fO_eq, fW_eq (fVn_eq n), fWW_eq (fVn_eq n), fVn_eq n]
def fV {α : Type} (v : AV) (K : AV → α) : α := fVn 30 v K
theorem fV_eq {α : Type} (v : AV) (K : AV → α) : fV v K = K v := fVn_eq 30 v K
def fL {α : Type} (l : List AV) (K : List AV → α) : α := fW (fVn 30) l K
theorem fL_eq {α : Type} (l : List AV) (K : List AV → α) : fL l K = K l := fW_eq (fVn_eq 30) l K
def fLL {α : Type} (l : List (List AV)) (K : List (List AV) → α) : α := fWW (fVn 30) l K
theorem fLL_eq {α : Type} (l : List (List AV)) (K : List (List AV) → α) : fLL l K = K l := fWW_eq (fVn_eq 30) l K
def fE {α : Type} : Env → (Env → α) → α
  | [], K => K []
  | (t, v) :: l, K => fN t fun t => fV v fun v => fE l fun l => K ((t, v) :: l)
theorem fE_eq {α : Type} : ∀ (e : Env) (K : Env → α), fE e K = K e
  | [], K => rfl
  | (t, v) :: l, K => by simp only [fE, fN_eq, fV_eq, fE_eq l]
def fR {α : Type} : Rows → (Rows → α) → α
  | [], K => K []
  | (t, ⟨sz, es⟩) :: l, K => fN t fun t => fN sz fun sz => fLL es fun es => fR l fun l => K ((t, ⟨sz, es⟩) :: l)
theorem fR_eq {α : Type} : ∀ (r : Rows) (K : Rows → α), fR r K = K r
  | [], K => rfl
  | (t, ⟨sz, es⟩) :: l, K => by simp only [fR, fN_eq, fLL_eq, fR_eq l]
def fX (r : Option (AX × Env × Store)) : Option (AX × Env × Store) := r
theorem fX_eq (r : Option (AX × Env × Store)) : fX r = r := rfl

/-- A call with values alone: how it ends, and the rows that it makes. -/
abbrev Ev0 := FuncId → List AV → Option (AO × Nat × Rows)
def AO.sh (k : Nat) : AO → AO
  | .ret v => .ret (v.sh k)
  | .pan v => .pan (v.sh k)
abbrev Ev1 := FuncId → List AV → Store → Option (AO × Store)
def callE (a : Ev0) (b : Ev1) (f : FuncId) (xs : List AV) (s : Store) : Option (AO × Store) := bif clL xs then (match fL xs (a f) with
    | some (o, 0, []) => some (o, s)
    | some (o, m, new) => some (o.sh s.nx, ⟨s.nx + m, shR s.nx new ++ s.rows⟩)
    | none => none) else b f xs s

def opE (a : Ev0) (b : Ev1) (im : Bool) (op : ROp) (e : Env) (s : Store) : Option (AO × Store) :=
  match op with
  | .st sz x y => bif lvB e x && lvB e y && stB s.rows sz (sv e x) (sv e y) then some (.ret .any, ⟨s.nx + 1, stR s.rows (sv e x) (sv e y)⟩) else none
  | .app sz bytes z x y => bif lvB e x && lvB e y && appB s.rows sz bytes z (sv e x) (sv e y) then some (.ret (appV s.rows sz s.nx (sv e x) (sv e y)), ⟨s.nx + 1, appR s.rows sz s.nx (sv e x) (sv e y)⟩) else none
  | .cal f xs => bif allLvB e xs then callE a b f (xs.map (sv e)) s else none
  | .cav f xs => bif lvB e f && allLvB e xs then (match sv e f with
    | .fn (.func g) p q => callE a b g (p ++ xs.map (sv e) ++ q) s
    | _ => none) else none
  | .pan x => bif lvB e x && isIfcB (sv e x) then some (.pan (sv e x), s) else none
  | .bslice sz n z ps => bif z.length == sz && decide (n * sz ≤ 2 ^ 24) && elemsB e sz n ps then (match im with
    | true => bif decide (0 < n) then some (.ret (.ros sz (elemsV e (List.replicate n z) ps)), next s none) else none
    | false => some (.ret (.sl s.nx sz 0 n (some n)), next s (some ⟨sz, elemsV e (List.replicate n z) ps⟩))) else none
  | op => bif pcB e s.rows op then some (.ret (pval e s.rows s.nx op), next s (prow e s.rows op)) else none

def gE (a : Ev0) (t : Bool) (op : ROp) (e : Env) (s : Store) : Option AV :=
  match op with
  | .cal f xs => match t with
    | true => bif allLvB e xs && clL (xs.map (sv e)) then (match a f (xs.map (sv e)) with | some (.ret v, 0, []) => some v | _ => none) else none
    | false => some .any
  | .bslice sz n z ps => bif !t || (z.length == sz && decide (n * sz ≤ 2 ^ 24) && elemsB e sz n ps && decide (0 < n)) then some (.ros sz (elemsV e (List.replicate n z) ps)) else none
  | op => bif !t || pcB e s.rows op then some (pval e s.rows s.nx op) else none

def seqE (a : Ev0) (b : Ev1) : List RP → Env → Store → Option (AX × Env × Store)
  | [], e, s => some (.normal, e, s)
  | o :: l, e, s =>
    match o.guard with
    | none => match opE a b o.im o.op e s with
      | some (.ret v, s') => seqE a b l (put e o.dst v) s'
      | some (.pan v, s') => some (.pan v, e, s')
      | none => none
    | some (g, c) => match gv e g c with
      | some t => match norow o.im o.op with
        | true => match gE a t o.op e s with
          | some v => seqE a b l (put e o.dst (.opt t v)) (next s none)
          | none => none
        | false => match t with
          | true => match opE a b o.im o.op e s with
            | some (.ret v, s') => seqE a b l (put e o.dst v) s'
            | some (.pan v, s') => some (.pan v, e, s')
            | none => none
          | false => seqE a b l (put e o.dst (.opt false .any)) s
      | none => none

def rowsE (k : Nat) : Option (AO × Nat × Rows) → Option (Nat × Rows × AV)
  | some (.ret v, 0, []) => some (0, [], v)
  | some (.ret v, m, new) => some (m, shR k new, v.sh k)
  | _ => none
def opDE (a : Ev0) (im : Bool) (op : ROp) (e : Env) (rows : Rows) (k : Nat) : Option (Nat × Rows × AV) :=
  match op with
  | .st _ _ _ | .app _ _ _ _ _ | .pan _ => none
  | .cal f xs => bif allLvB e xs && clL (xs.map (sv e)) then rowsE k (a f (xs.map (sv e))) else none
  | .cav f xs => bif lvB e f && allLvB e xs then (match sv e f with
    | .fn (.func g) p q => bif clL (p ++ xs.map (sv e) ++ q) then rowsE k (a g (p ++ xs.map (sv e) ++ q)) else none
    | _ => none) else none
  | .bslice sz n z ps => bif z.length == sz && decide (n * sz ≤ 2 ^ 24) && elemsB e sz n ps then (match im with
    | true => bif decide (0 < n) then some (1, [], .ros sz (elemsV e (List.replicate n z) ps)) else none
    | false => some (1, [(k, ⟨sz, elemsV e (List.replicate n z) ps⟩)], .sl k sz 0 n (some n))) else none
  | op => bif pcB e rows op then some (1, push [] k (prow e rows op), pval e rows k op) else none

def dE (a : Ev0) (rows0 : Rows) (nx0 : Nat) : List (Bool × RP) → Nat → Rows → List Nat → List Nat → Env → Option (Env × Store)
  | [], k, cur, _, _, e => some (e, ⟨k, cur⟩)
  | (fl, o) :: l, k, cur, tg, fr, e =>
    match o.guard with
    | none => match o.op with
      | .st sz x y => bif lvB e x && lvB e y && stB cur sz (sv e x) (sv e y) && decide (tgt (sv e x) < k) && !(fr.contains (tgt (sv e x))) then dE a rows0 nx0 l (k + 1) (stR cur (sv e x) (sv e y)) (tgt (sv e x) :: tg) fr (put e o.dst .any) else none
      | op => match opDE a o.im op e (vis rows0 nx0 cur tg e fl op) k with
        | some (m, new, v) => dE a rows0 nx0 l (k + m) (new ++ cur) tg (frs e fl op fr) (put e o.dst v)
        | none => none
    | some (g, c) => match gv e g c with
      | some t => match norow o.im o.op with
        | true => match gE a t o.op e ⟨k, vis rows0 nx0 cur tg e fl o.op⟩ with
          | some v => dE a rows0 nx0 l (k + 1) cur tg (frs e fl o.op fr) (put e o.dst (.opt t v))
          | none => none
        | false => none
      | none => none

/-- An environment without what is hidden. -/
def hasK (t : Nat) : Env → Bool
  | [] => false
  | (k, _) :: l => k == t || hasK t l
def dd : Env → Env → Env
  | acc, [] => acc.reverse
  | acc, (k, v) :: l => bif hasK k acc then dd acc l else dd ((k, v) :: acc) l

def lpE (body : Env → Store → Option (AX × Env × Store)) : Nat → Env → Store → Option (AX × Env × Store)
  | 0, _, _ => none
  | n + 1, e, s => match body e s with
    | some (.normal, e1, s1) => fE (dd [] e1) fun e2 => fN s1.nx fun nx => fR s1.rows fun rows => lpE body n e2 ⟨nx, rows⟩
    | r => r

def runE (a : Ev0) (b : Ev1) (L : Nat) : RQ → Env → Store → Option (AX × Env × Store)
  | .skip, e, s => some (.normal, e, s)
  | .ret, e, s => some (.ret, e, s)
  | .exit id, e, s => some (.exit id, e, s)
  | .seq x y, e, s => match runE a b L x e s with
    | some (.normal, e1, s1) => runE a b L y e1 s1
    | r => r
  | .cond c x y, e, s => bif lvB e c then (match sv e c with
    | .bool t => bif t then runE a b L x e s else runE a b L y e s
    | _ => none) else none
  | .block id x, e, s => match runE a b L x e s with
    | some (.exit i, e1, s1) => bif i == id then some (.normal, e1, s1) else some (.exit i, e1, s1)
    | r => r
  | .loop x, e, s => lpE (runE a b L x) L e s
  | .reg ops, e, s => fX (seqE a b ops e s)
  | .drw ops tail, e, s => match dE a s.rows s.nx ops s.nx s.rows [] [] e with
    | some (e1, s1) => fX (seqE a b tail e1 s1)
    | none => none

/-! ### Soundness -/
def outCl : AO → Prop
  | .ret v => Cl v
  | .pan v => Cl v
structure CallOK (P : Program) (a : Ev0) (b : Ev1) : Prop where
  c0 : ∀ f xs o m new, a f xs = some (o, m, new) → (m = 0 ∧ new = [] ∧ SCall P f xs ⟨0, []⟩ o ⟨0, []⟩ ∧ outCl o) ∨ ∃ v, o = .ret v ∧ RCall P f xs 0 m new v
  c1 : ∀ f xs s o s', b f xs s = some (o, s') → SCall P f xs s o s'

section
variable {P : Program} {a : Ev0} {b : Ev1}

/-- A call that gives nothing of its own, in any store. -/
theorem SCall.lift {f : FuncId} {xs : List AV} {o : AO} {s : Store} (h : SCall P f xs ⟨0, []⟩ o ⟨0, []⟩) (ho : outCl o) (hcl : ∀ x ∈ xs, Cl x) : SCall P f xs s o s := by
  refine ⟨h.enter, fun F w p args hs ha => Calls.mono (h.run F w p args (srel_nil hs.old) ⟨ha.1, fun j x hj => (ha.2 j x hj).closed (hcl x (List.mem_of_getElem? hj))⟩) ?_⟩
  rintro e w' ⟨F', p', h1, h2, h3⟩
  obtain ⟨g1, g2, g3, _⟩ := evo_nil h3
  have go : ∀ {v : AV} {u : Value}, Cl v → VR F' w' p' (fun i => i < 0) v u → SRel F' w' p (fun i => i < s.nx) s.rows ∧ Evo s.nx F w p s F' w' p s ∧ VR F' w' p (fun i => i < s.nx) v u := by
    intro v u hc hv
    have hp : PRm F w p (fun i => i < s.nx) s.nx 0 F' w' u [] v p :=
      ⟨g1, g2, fun b hb => (g3 b hb).imp id fun h => ⟨h, h2.old b hb⟩, fun _ _ => rfl, fun id r hl => by simp [look] at hl, fun id id' r r' hl => by simp [look] at hl, hv.closed hc⟩
    obtain ⟨k1, k2, k3, _⟩ := hp.store hs (Nat.le_refl _)
    exact ⟨k1, k2, k3⟩
  cases h1 with
  | ret v u hv => obtain ⟨k1, k2, k3⟩ := go ho hv; exact ⟨F', p, .ret v u k3, k1, k2⟩
  | pan v u hv => obtain ⟨k1, k2, k3⟩ := go ho hv; exact ⟨F', p, .pan v u k3, k1, k2⟩

/-- No row at all: a closed value. -/
theorem vr_noD {F : Nat → Prop} {w : World} {p : Place} {v : AV} {u : Value} (h : VR F w p (fun i => False ∨ (0 ≤ i ∧ i < 0 + 0)) v u) : VR F w (fun _ => (0, 0)) (fun _ => False) v u :=
  (vr_D (D' := fun _ => False) h (fun i hi => hi.elim id (fun h => by omega))).free
theorem RCall.p0 {f : FuncId} {xs : List AV} {v : AV} (h : RCall P f xs 0 0 [] v) : PCall P f xs v := by
  refine ⟨h.enter, fun F w args ho ha => Calls.mono (h.run F w args ho ha) ?_⟩
  rintro e w' ⟨u, rfl, F', p', g⟩
  exact ⟨u, rfl, F', g.grow, g.inF, g.newF, vr_noD g.val⟩
theorem RCall.sh0 {f : FuncId} {xs : List AV} {v : AV} {k : Nat} (h : RCall P f xs 0 0 [] v) : RCall P f xs k 0 (shR k []) (v.sh k) := h.sh
theorem PRm.nil {F F' : Nat → Prop} {w w' : World} {p p' : Place} {D : Nat → Prop} {k : Nat} {u : Value} {v : AV} (h : PRm F w p D k 0 F' w' u [] v p') : True := trivial
theorem c0_s (H : CallOK P a b) {f : FuncId} {xs : List AV} {o : AO} {m : Nat} {new : Rows} {s : Store} (h : a f xs = some (o, m, new)) (hcl : ∀ x ∈ xs, Cl x) : SCall P f xs s (o.sh s.nx) ⟨s.nx + m, shR s.nx new ++ s.rows⟩ ∨ (m = 0 ∧ new = [] ∧ SCall P f xs s o s) := by
  rcases H.c0 _ _ _ _ _ h with ⟨rfl, rfl, h1, h2⟩ | ⟨v, rfl, h1⟩
  · exact .inr ⟨rfl, rfl, h1.lift h2 hcl⟩
  · exact .inl (h1.sh.s hcl)
theorem callE_sound (H : CallOK P a b) {f : FuncId} {xs : List AV} {s s' : Store} {o : AO} (h : callE a b f xs s = some (o, s')) : SCall P f xs s o s' := by
  unfold callE at h
  cases hc : clL xs with
  | true =>
    rw [hc, fL_eq] at h
    simp only [cond_true] at h
    split at h
    · rename_i o' h1
      simp only [Option.some.injEq, Prod.mk.injEq] at h
      obtain ⟨rfl, rfl⟩ := h
      rcases H.c0 _ _ _ _ _ h1 with ⟨_, _, h2, h3⟩ | ⟨v, rfl, h2⟩
      · exact h2.lift h3 (clL_cl hc)
      · exact (h2.p0).s (clL_cl hc)
    · rename_i o' m new hne h1
      simp only [Option.some.injEq, Prod.mk.injEq] at h
      obtain ⟨rfl, rfl⟩ := h
      rcases c0_s H (s := s) h1 (clL_cl hc) with h2 | ⟨rfl, rfl, _⟩
      · exact h2
      · exact (hne rfl rfl).elim
    · cases h
  | false => rw [hc] at h; exact H.c1 _ _ _ _ _ h

theorem bif_some {α : Type} {c : Bool} {x y : α} (h : (bif c then some x else none) = some y) : c = true ∧ x = y := by cases c <;> simp at h; exact ⟨rfl, h⟩

theorem opE_sound (H : CallOK P a b) {im : Bool} {op : ROp} {e : Env} {s s' : Store} {o : AO} (h : opE a b im op e s = some (o, s')) {K Kp : AV → Store → Prop} (hK : outK K Kp o s') : opR P im op e s K Kp := by
  have pc : ∀ {op : ROp}, (bif pcB e s.rows op then some (AO.ret (pval e s.rows s.nx op), next s (prow e s.rows op)) else none) = some (o, s') → pcond e s.rows op ∧ K (pval e s.rows s.nx op) (next s (prow e s.rows op)) := by
    intro op h
    obtain ⟨h1, h2⟩ := bif_some h
    cases h2
    exact ⟨pcB_pc h1, hK⟩
  cases op <;> simp only [opE] at h <;> try exact pc h
  case cpy => obtain ⟨h1, _⟩ := bif_some h; simp [pcB] at h1
  case st =>
    obtain ⟨h1, h2⟩ := bif_some h
    cases h2
    simp only [Bool.and_eq_true] at h1
    exact ⟨lvB_lv h1.1.1, lvB_lv h1.1.2, stB_st h1.2, hK⟩
  case app =>
    obtain ⟨h1, h2⟩ := bif_some h
    cases h2
    simp only [Bool.and_eq_true] at h1
    exact ⟨lvB_lv h1.1.1, lvB_lv h1.1.2, appB_app h1.2, hK⟩
  case cal f xs =>
    cases hc : allLvB e xs with
    | false => rw [hc] at h; cases h
    | true => rw [hc] at h; exact ⟨allLvB_all hc, o, s', callE_sound H h, hK⟩
  case cav f xs =>
    cases hc : lvB e f && allLvB e xs with
    | false => rw [hc] at h; cases h
    | true =>
      rw [hc] at h
      simp only [Bool.and_eq_true] at hc
      refine ⟨lvB_lv hc.1, allLvB_all hc.2, ?_⟩
      simp only [cond_true] at h
      split at h
      · rename_i g p q hg
        rw [hg]
        exact ⟨o, s', callE_sound H h, hK⟩
      · cases h
  case pan x =>
    obtain ⟨h1, h2⟩ := bif_some h
    cases h2
    simp only [Bool.and_eq_true] at h1
    exact ⟨lvB_lv h1.1, isIfcB_ifc h1.2, hK⟩
  case bslice sz n z ps =>
    cases hc : (z.length == sz && decide (n * sz ≤ 2 ^ 24) && elemsB e sz n ps) with
    | false => rw [hc] at h; cases h
    | true =>
      rw [hc] at h
      simp only [Bool.and_eq_true, beq_iff_eq, decide_eq_true_eq] at hc
      refine ⟨⟨hc.1.1, hc.1.2, elemsB_elems hc.2⟩, ?_⟩
      cases im with
      | true =>
        obtain ⟨h1, h2⟩ := bif_some h
        cases h2
        exact ⟨by simpa using h1, hK⟩
      | false => simp only [cond_true, Option.some.injEq, Prod.mk.injEq] at h; obtain ⟨rfl, rfl⟩ := h; exact hK

theorem c0_pcall (H : CallOK P a b) {f : FuncId} {xs : List AV} {v : AV} (h : a f xs = some (.ret v, 0, [])) : PCall P f xs v := by
  rcases H.c0 _ _ _ _ _ h with ⟨_, _, h1, h2⟩ | ⟨v', h1, h2⟩
  · exact h1.p h2
  · cases h1; exact h2.p0
theorem rowsE_sound (H : CallOK P a b) {f : FuncId} {xs : List AV} {k m : Nat} {new : Rows} {v : AV} (h : rowsE k (a f xs) = some (m, new, v)) : RCall P f xs k m new v := by
  cases ha : a f xs with
  | none => rw [ha] at h; cases h
  | some r =>
    obtain ⟨o, m', new'⟩ := r
    rw [ha] at h
    cases o with
    | pan v' => cases h
    | ret v' =>
      have key : (m' = 0 ∧ new' = []) ∨ some (m', shR k new', v'.sh k) = some (m, new, v) := by
        cases m' with
        | zero => cases new' with
          | nil => exact .inl ⟨rfl, rfl⟩
          | cons => exact .inr h
        | succ => exact .inr h
      rcases key with ⟨rfl, rfl⟩ | h
      · simp only [rowsE, Option.some.injEq, Prod.mk.injEq] at h
        obtain ⟨rfl, rfl, rfl⟩ := h
        exact (c0_pcall H ha).r
      · simp only [Option.some.injEq, Prod.mk.injEq] at h
        obtain ⟨rfl, rfl, rfl⟩ := h
        rcases H.c0 _ _ _ _ _ ha with ⟨rfl, rfl, h1, h2⟩ | ⟨v2, h1, h2⟩
        · exact (h1.p h2).r.sh0
        · cases h1; exact h2.sh

theorem gE_sound (H : CallOK P a b) {t : Bool} {op : ROp} {e : Env} {s : Store} {v : AV} (h : gE a t op e s = some v) {K : AV → Prop} (hK : K v) : opG P t op e s K := by
  have pc : ∀ {op : ROp}, (bif !t || pcB e s.rows op then some (pval e s.rows s.nx op) else none) = some v → (t = true → pcond e s.rows op) ∧ K (pval e s.rows s.nx op) := by
    intro op h
    obtain ⟨h1, h2⟩ := bif_some h
    cases h2
    exact ⟨fun ht => by subst ht; exact pcB_pc (by simpa using h1), hK⟩
  cases op <;> simp only [gE] at h <;> try exact pc h
  case cal f xs =>
    cases t with
    | false => simp only [Option.some.injEq] at h; subst h; exact ⟨.any, nofun, hK⟩
    | true =>
      cases hc : (allLvB e xs && clL (xs.map (sv e))) with
      | false => rw [hc] at h; cases h
      | true =>
        rw [hc] at h
        simp only [Bool.and_eq_true] at hc
        simp only [cond_true] at h
        split at h
        · rename_i v' hv
          simp only [Option.some.injEq] at h; subst h
          exact ⟨v', fun _ => ⟨allLvB_all hc.1, .inl ⟨clL_cl hc.2, c0_pcall H hv⟩⟩, hK⟩
        · cases h
  case bslice sz n z ps =>
    obtain ⟨h1, h2⟩ := bif_some h
    cases h2
    refine ⟨fun ht => ?_, hK⟩
    subst ht
    simp only [Bool.not_true, Bool.false_or, Bool.and_eq_true, beq_iff_eq, decide_eq_true_eq] at h1
    exact ⟨⟨h1.1.1.1, h1.1.1.2, elemsB_elems h1.1.2⟩, h1.2⟩

theorem seqE_sound (H : CallOK P a b) {x : AX} {e' : Env} {s' : Store} {Q : AX → Env → Store → Prop} (hQ : Q x e' s') : ∀ {l : List RP} {e : Env} {s : Store}, seqE a b l e s = some (x, e', s') → seqR P l (fun e s => Q .normal e s) (fun v e s => Q (.pan v) e s) e s
  | [], e, s, h => by simp only [seqE, Option.some.injEq, Prod.mk.injEq] at h; obtain ⟨rfl, rfl, rfl⟩ := h; exact hQ
  | o :: l, e, s, h => by
    unfold seqE at h
    unfold seqR
    have one : (match opE a b o.im o.op e s with
        | some (.ret v, s') => seqE a b l (put e o.dst v) s'
        | some (.pan v, s') => some (.pan v, e, s')
        | none => none) = some (x, e', s') → opR P o.im o.op e s (fun v s' => seqR P l (fun e s => Q .normal e s) (fun v e s => Q (.pan v) e s) (put e o.dst v) s') (fun v s' => Q (.pan v) e s') := by
      intro h
      split at h
      · rename_i v s1 hv
        exact opE_sound H hv (seqE_sound H hQ h)
      · rename_i v s1 hv
        simp only [Option.some.injEq, Prod.mk.injEq] at h; obtain ⟨rfl, rfl, rfl⟩ := h
        exact opE_sound H hv hQ
      · cases h
    cases hg : o.guard with
    | none => rw [hg] at h; exact one h
    | some gc =>
      obtain ⟨g, c⟩ := gc
      rw [hg] at h
      simp only at h ⊢
      cases ht : gv e g c with
      | none => rw [ht] at h; cases h
      | some t =>
        rw [ht] at h
        simp only at h ⊢
        cases hno : norow o.im o.op with
        | true =>
          rw [hno] at h
          simp only at h ⊢
          split at h
          · rename_i v hv; exact gE_sound H hv (seqE_sound H hQ h)
          · cases h
        | false =>
          rw [hno] at h
          simp only at h ⊢
          cases t with
          | true => exact ⟨fun _ => one h, nofun⟩
          | false => exact ⟨nofun, fun _ => seqE_sound H hQ h⟩

theorem opDE_sound (H : CallOK P a b) {im : Bool} {op : ROp} {e : Env} {rows : Rows} {k m : Nat} {new : Rows} {v : AV} (h : opDE a im op e rows k = some (m, new, v)) {K : Nat → Rows → AV → Prop} (hK : K m new v) : opD P im op e rows k K := by
  have pc : ∀ {op : ROp}, (bif pcB e rows op then some (1, push [] k (prow e rows op), pval e rows k op) else none) = some (m, new, v) → pcond e rows op ∧ K 1 (push [] k (prow e rows op)) (pval e rows k op) := by
    intro op h
    obtain ⟨h1, h2⟩ := bif_some h
    cases h2
    exact ⟨pcB_pc h1, hK⟩
  cases op <;> simp only [opDE, reduceCtorEq] at h <;> try exact pc h
  case cpy => obtain ⟨h1, _⟩ := bif_some h; simp [pcB] at h1
  case cal f xs =>
    cases hc : (allLvB e xs && clL (xs.map (sv e))) with
    | false => rw [hc] at h; cases h
    | true =>
      rw [hc] at h
      simp only [Bool.and_eq_true] at hc
      exact ⟨allLvB_all hc.1, callD_cl (rowsE_sound H h) (clL_cl hc.2) hK⟩
  case cav f xs =>
    cases hc : (lvB e f && allLvB e xs) with
    | false => rw [hc] at h; cases h
    | true =>
      rw [hc] at h
      simp only [Bool.and_eq_true] at hc
      simp only [cond_true] at h
      refine ⟨lvB_lv hc.1, allLvB_all hc.2, ?_⟩
      split at h
      · rename_i g p q hg
        rw [hg]
        cases hcl : clL (p ++ xs.map (sv e) ++ q) with
        | false => rw [hcl] at h; cases h
        | true =>
          rw [hcl] at h
          exact callD_cl (rowsE_sound H h) (clL_cl hcl) hK
      · cases h
  case bslice sz n z ps =>
    cases hc : (z.length == sz && decide (n * sz ≤ 2 ^ 24) && elemsB e sz n ps) with
    | false => rw [hc] at h; cases h
    | true =>
      rw [hc] at h
      simp only [Bool.and_eq_true, beq_iff_eq, decide_eq_true_eq] at hc
      refine ⟨⟨hc.1.1, hc.1.2, elemsB_elems hc.2⟩, ?_⟩
      cases im with
      | true =>
        obtain ⟨h1, h2⟩ := bif_some h
        cases h2
        exact ⟨by simpa using h1, hK⟩
      | false => simp only [cond_true, Option.some.injEq, Prod.mk.injEq] at h; obtain ⟨rfl, rfl, rfl⟩ := h; exact hK

theorem dE_sound (H : CallOK P a b) {rows0 : Rows} {nx0 : Nat} {e' : Env} {s' : Store} {K : Env → Store → Prop} (hK : K e' s') : ∀ {l : List (Bool × RP)} {k : Nat} {cur : Rows} {tg fr : List Nat} {e : Env}, dE a rows0 nx0 l k cur tg fr e = some (e', s') → dR P rows0 nx0 l k cur tg fr K e
  | [], k, cur, tg, fr, e, h => by simp only [dE, Option.some.injEq, Prod.mk.injEq] at h; obtain ⟨rfl, rfl⟩ := h; exact hK
  | (fl, o) :: l, k, cur, tg, fr, e, h => by
    unfold dE at h
    unfold dR
    cases hg : o.guard with
    | none =>
      rw [hg] at h
      have pure : ∀ {op : ROp}, (match opDE a o.im op e (vis rows0 nx0 cur tg e fl op) k with
          | some (m, new, v) => dE a rows0 nx0 l (k + m) (new ++ cur) tg (frs e fl op fr) (put e o.dst v)
          | none => none) = some (e', s') → opD P o.im op e (vis rows0 nx0 cur tg e fl op) k fun m new v => dR P rows0 nx0 l (k + m) (new ++ cur) tg (frs e fl op fr) K (put e o.dst v) := by
        intro op h
        split at h
        · rename_i m new v hv; exact opDE_sound H hv (dE_sound H hK h)
        · cases h
      cases hop : o.op with
      | st sz x y =>
        rw [hop] at h
        simp only at h ⊢
        cases hc : (lvB e x && lvB e y && stB cur sz (sv e x) (sv e y) && decide (tgt (sv e x) < k) && !(fr.contains (tgt (sv e x)))) with
        | false => rw [hc] at h; cases h
        | true =>
          rw [hc] at h
          simp only [Bool.and_eq_true, decide_eq_true_eq, Bool.not_eq_true'] at hc
          exact ⟨lvB_lv hc.1.1.1.1, lvB_lv hc.1.1.1.2, stB_st hc.1.1.2, hc.1.2, hc.2, dE_sound H hK h⟩
      | _ => rw [hop] at h; exact pure h
    | some gc =>
      obtain ⟨g, c⟩ := gc
      rw [hg] at h
      simp only at h ⊢
      cases ht : gv e g c with
      | none => rw [ht] at h; cases h
      | some t =>
        rw [ht] at h
        simp only at h ⊢
        cases hno : norow o.im o.op with
        | false => rw [hno] at h; cases h
        | true =>
          rw [hno] at h
          simp only at h ⊢
          split at h
          · rename_i v hv; exact gE_sound H hv (dE_sound H hK h)
          · cases h

theorem get_dd : ∀ (l acc : Env) (t : Nat), get (dd acc l) t = get (acc.reverse ++ l) t
  | [], acc, t => by simp [dd]
  | (k, v) :: l, acc, t => by
    have app : ∀ (x y : Env) (t : Nat), get (x ++ y) t = bif hasK t x then get x t else get y t := by
      intro x y t
      induction x with
      | nil => rfl
      | cons q x ih =>
        obtain ⟨k', v'⟩ := q
        simp only [List.cons_append, get, hasK, ih]
        cases k' == t <;> simp
    have hrev : ∀ (x : Env) (t : Nat), hasK t x.reverse = hasK t x := by
      intro x t
      have happ : ∀ (x y : Env), hasK t (x ++ y) = (hasK t x || hasK t y) := by
        intro x y
        induction x with
        | nil => rfl
        | cons q x ih => obtain ⟨k', v'⟩ := q; simp [hasK, ih, Bool.or_assoc]
      induction x with
      | nil => rfl
      | cons q x ih => obtain ⟨k', v'⟩ := q; simp [happ, hasK, ih, Bool.or_comm]
    simp only [dd]
    cases hk : hasK k acc with
    | true =>
      simp only [cond_true]
      rw [get_dd l acc t, app, app, hrev]
      cases h : hasK t acc with
      | true => rfl
      | false =>
        simp only [cond_false, get]
        have : k ≠ t := by rintro rfl; rw [hk] at h; cases h
        simp [beq_false_of_ne this]
    | false =>
      simp only [cond_false]
      rw [get_dd l ((k, v) :: acc) t]
      simp

theorem Wk.same {n0 : Nat} {e e' : Env} {s : Store} (h : ∀ t, get e' t = get e t) : Wk n0 e s e' s :=
  fun N F w p a hn hr => ⟨F, p, ⟨⟨hr.env.size, fun t => by rw [h t]; exact hr.env.val t⟩, hr.sto⟩, .refl hn⟩
theorem Wk.dd {n0 : Nat} {e : Env} {s : Store} : Wk n0 e s (Ai.dd [] e) s := .same fun t => by rw [get_dd]; rfl

open Classical in
theorem lp_sound {n0 L : Nat} {q : RQ} {body : Env → Store → Option (AX × Env × Store)} {x : AX} {e' : Env} {s' : Store} {Q : AX → Env → Store → Prop} (hQ : Q x e' s')
    (hb : ∀ {x1 e1 s1 e s} {Q1 : AX → Env → Store → Prop}, body e s = some (x1, e1, s1) → Q1 x1 e1 s1 → rwp P n0 q Q1 e s) {e : Env} {s : Store} (h : lpE body L e s = some (x, e', s')) : rwp P n0 (.loop q) Q e s := by
  let I (e : Env) (s : Store) : Prop := ∃ k, lpE body k e s = some (x, e', s')
  let μ (e : Env) (s : Store) : Nat := if h : I e s then Classical.choose (least _ h) else 0
  have hμ : ∀ e s k, lpE body k e s = some (x, e', s') → lpE body (μ e s) e s = some (x, e', s') ∧ μ e s ≤ k := by
    intro e s k hk
    have hI : I e s := ⟨k, hk⟩
    have hc := Classical.choose_spec (least _ hI)
    simp only [μ, dif_pos hI]
    exact ⟨hc.1, hc.2 k hk⟩
  refine ⟨I, μ, ⟨e, s, .refl, L, h⟩, ?_⟩
  rintro e1 s1 ⟨k, hk⟩
  obtain ⟨hm, _⟩ := hμ e1 s1 k hk
  generalize hmm : μ e1 s1 = m at hm
  cases m with
  | zero => simp [lpE] at hm
  | succ m =>
    simp only [lpE, fE_eq, fN_eq, fR_eq] at hm
    cases hbd : body e1 s1 with
    | none => rw [hbd] at hm; cases hm
    | some r =>
      obtain ⟨y, e2, s2⟩ := r
      rw [hbd] at hm
      refine hb hbd ?_
      cases y with
      | normal =>
        have hle : μ (dd [] e2) s2 ≤ m := (hμ _ _ m hm).2
        exact ⟨_, _, .dd, ⟨m, hm⟩, by omega⟩
      | ret => cases hm; exact hQ
      | exit id => cases hm; exact hQ
      | pan v => cases hm; exact hQ

theorem runE_sound (H : CallOK P a b) {n0 L : Nat} : ∀ {q : RQ} {x : AX} {e e' : Env} {s s' : Store} {Q : AX → Env → Store → Prop}, runE a b L q e s = some (x, e', s') → Q x e' s' → rwp P n0 q Q e s
  | .skip, x, e, e', s, s', Q, h, hQ => by simp only [runE, Option.some.injEq, Prod.mk.injEq] at h; obtain ⟨rfl, rfl, rfl⟩ := h; exact hQ
  | .ret, x, e, e', s, s', Q, h, hQ => by simp only [runE, Option.some.injEq, Prod.mk.injEq] at h; obtain ⟨rfl, rfl, rfl⟩ := h; exact hQ
  | .exit id, x, e, e', s, s', Q, h, hQ => by simp only [runE, Option.some.injEq, Prod.mk.injEq] at h; obtain ⟨rfl, rfl, rfl⟩ := h; exact hQ
  | .seq q1 q2, x, e, e', s, s', Q, h, hQ => by
    simp only [runE] at h
    cases h1 : runE a b L q1 e s with
    | none => rw [h1] at h; cases h
    | some r =>
      obtain ⟨y, e1, s1⟩ := r
      rw [h1] at h
      show rwp P n0 q1 (thn (rwp P n0 q2 Q) Q) e s
      refine runE_sound H h1 ?_
      cases y with
      | normal => exact runE_sound H h hQ
      | ret => cases h; exact hQ
      | exit id => cases h; exact hQ
      | pan v => cases h; exact hQ
  | .cond c q1 q2, x, e, e', s, s', Q, h, hQ => by
    simp only [runE] at h
    cases hl : lvB e c with
    | false => rw [hl] at h; cases h
    | true =>
      rw [hl] at h
      simp only [cond_true] at h
      refine ⟨lvB_lv hl, ?_⟩
      split at h
      · rename_i t ht
        rw [ht]
        cases t with
        | true => exact ⟨fun _ => runE_sound H h hQ, nofun⟩
        | false => exact ⟨nofun, fun _ => runE_sound H h hQ⟩
      · cases h
  | .block id q1, x, e, e', s, s', Q, h, hQ => by
    simp only [runE] at h
    cases h1 : runE a b L q1 e s with
    | none => rw [h1] at h; cases h
    | some r =>
      obtain ⟨y, e1, s1⟩ := r
      rw [h1] at h
      show rwp P n0 q1 (blk id Q) e s
      refine runE_sound H h1 ?_
      cases y with
      | normal => cases h; exact hQ
      | ret => cases h; exact hQ
      | pan v => cases h; exact hQ
      | exit i =>
        simp only [blk]
        cases hi : i == id with
        | true => simp only [hi, cond_true, Option.some.injEq, Prod.mk.injEq] at h ⊢; obtain ⟨rfl, rfl, rfl⟩ := h; exact hQ
        | false => simp only [hi, cond_false, Option.some.injEq, Prod.mk.injEq] at h ⊢; obtain ⟨rfl, rfl, rfl⟩ := h; exact hQ
  | .loop q1, x, e, e', s, s', Q, h, hQ => lp_sound hQ (fun hb hQ1 => runE_sound H hb hQ1) (by simpa only [runE] using h)
  | .reg ops, x, e, e', s, s', Q, h, hQ => seqE_sound H hQ (by simpa only [runE, fX_eq] using h)
  | .drw ops tail, x, e, e', s, s', Q, h, hQ => by
    simp only [runE] at h
    split at h
    · rename_i e1 s1 h1
      rw [fX_eq] at h
      exact dE_sound H (seqE_sound H hQ h) h1
    · cases h
end

end Go.Proofs.YtggmkfagcjdifaaDoor.Ai
