/-
  Regions that draw the order of their operations. Plain facts, no condition.
-/
import Derived.Test.YtggmkfagcjdifaaDoorAiO
import Derived.StillTail
namespace Go.Proofs.YtggmkfagcjdifaaDoor.Ai
set_option linter.unusedSimpArgs false
set_option linter.unusedVariables false
set_option linter.unnecessarySimpa false
set_option linter.unusedSectionVars false
set_option linter.unusedVariables false

def callD (P : Program) (rows : Rows) (g : FuncId) (vs : List AV) (k : Nat) (K : Nat → Rows → AV → Prop) : Prop := ∃ m new v, argsR P rows g vs k m new v ∧ K m new v
theorem callD_cl {P : Program} {rows : Rows} {g : FuncId} {vs : List AV} {k m : Nat} {new : Rows} {v : AV} {K : Nat → Rows → AV → Prop} (h : RCall P g vs k m new v) (hc : ∀ x ∈ vs, Cl x) (hK : K m new v) : callD P rows g vs k K :=
  ⟨m, new, v, .inl ⟨hc, h⟩, hK⟩
theorem callD_fz {P : Program} {rows : Rows} {g : FuncId} {vs ys : List AV} {k m : Nat} {new : Rows} {v : AV} {K : Nat → Rows → AV → Prop} (h : RCall P g ys k m new v) (hx : All2 (frzArg rows) vs ys) (hv : Fl v) (hnew : flRows new) (hK : K m new v) : callD P rows g vs k K :=
  ⟨m, new, v, .inr ⟨ys, hx, h, hv, hnew⟩, hK⟩

def opD (P : Program) (im : Bool) (op : ROp) (e : Env) (rows : Rows) (k : Nat) (K : Nat → Rows → AV → Prop) : Prop :=
  match op with
  | .st _ _ _ | .app _ _ _ _ _ | .pan _ | .cpy _ _ => False
  | .cal f xs => allLv e xs ∧ callD P rows f (xs.map (sv e)) k K
  | .cav f xs => lv e f ∧ allLv e xs ∧ match sv e f with
    | .fn (.func g) a b => callD P rows g (a ++ xs.map (sv e) ++ b) k K
    | _ => False
  | .bslice sz n z ps => (z.length = sz ∧ n * sz ≤ 2 ^ 24 ∧ elemsC e sz n ps) ∧ (match im with
    | true => 0 < n ∧ K 1 [] (.ros sz (elemsV e (List.replicate n z) ps))
    | false => K 1 [(k, ⟨sz, elemsV e (List.replicate n z) ps⟩)] (.sl k sz 0 n (some n)))
  | op => pcond e rows op ∧ K 1 (push [] k (prow e rows op)) (pval e rows k op)

/-- The rows that were there before the region. -/
def low (nx : Nat) : Rows → Rows
  | [] => []
  | (k, r) :: l => bif decide (k < nx) then (k, r) :: low nx l else low nx l
def tgt : AV → Nat
  | .pt id _ _ _ => id
  | _ => 0
/-- What an operation may read that is not ordered against every store. -/
def flId (e : Env) : ROp → Option Nat
  | .ld _ _ x => match sv e x with
    | .pt id _ _ _ => some id
    | _ => none
  | _ => none
def oneR (rows : Rows) (id : Nat) : Rows := match look rows id with
  | some r => [(id, r)]
  | none => []
def vis (rows0 : Rows) (nx0 : Nat) (cur : Rows) (tg : List Nat) (e : Env) (fl : Bool) (op : ROp) : Rows :=
  match fl with
  | false => low nx0 cur
  | true => match flId e op with
    | some id => bif decide (id < nx0) && !tg.contains id then oneR rows0 id else []
    | none => []
def frs (e : Env) (fl : Bool) (op : ROp) (fr : List Nat) : List Nat :=
  match fl with
  | false => fr
  | true => match flId e op with
    | some id => id :: fr
    | none => fr

def dR (P : Program) (rows0 : Rows) (nx0 : Nat) : List (Bool × RP) → Nat → Rows → List Nat → List Nat → (Env → Store → Prop) → Env → Prop
  | [], k, cur, _, _, K, e => K e ⟨k, cur⟩
  | (fl, o) :: l, k, cur, tg, fr, K, e =>
    match o.guard with
    | none => match o.op with
      | .st sz a x => lv e a ∧ lv e x ∧ stC cur sz (sv e a) (sv e x) ∧ tgt (sv e a) < k ∧ fr.contains (tgt (sv e a)) = false ∧ dR P rows0 nx0 l (k + 1) (stR cur (sv e a) (sv e x)) (tgt (sv e a) :: tg) fr K (put e o.dst .any)
      | op => opD P o.im op e (vis rows0 nx0 cur tg e fl op) k fun m new v => dR P rows0 nx0 l (k + m) (new ++ cur) tg (frs e fl op fr) K (put e o.dst v)
    | some (g, b) => match gv e g b with
      | some t => match norow o.im o.op with
        | true => opG P t o.op e ⟨k, vis rows0 nx0 cur tg e fl o.op⟩ fun v => dR P rows0 nx0 l (k + 1) cur tg (frs e fl o.op fr) K (put e o.dst (.opt t v))
        | false => False
      | none => False

structure Fact where
  m : Nat
  new : Rows
  ov : Option (Nat × Row)
  v : AV

/-- The state before an operation, in the order of the list. -/
structure St where
  k : Nat
  cur : Rows
  tg : List Nat
  fr : List Nat
  e : Env

def rowAt (cur : Rows) (a x : AV) : Option (Nat × Row) :=
  match a with
  | .pt id q i off => match look cur id with
    | some r => some (id, ⟨r.sz, r.es.set i (splice (r.es.getD i []) off x.cells)⟩)
    | none => none
  | _ => none
def isSt : ROp → Bool
  | .st _ _ _ => true
  | _ => false
def factOK (P : Program) (rows0 : Rows) (nx0 : Nat) (fl : Bool) (o : RP) (s : St) (f : Fact) : Prop :=
  match o.guard with
  | none => match o.op with
    | .st sz a x => lv s.e a ∧ lv s.e x ∧ stC s.cur sz (sv s.e a) (sv s.e x) ∧ tgt (sv s.e a) < s.k ∧ s.fr.contains (tgt (sv s.e a)) = false ∧ f = ⟨1, [], rowAt s.cur (sv s.e a) (sv s.e x), .any⟩
    | op => f.ov = none ∧ achR P o.im op s.e (vis rows0 nx0 s.cur s.tg s.e fl op) s.k f.m f.new f.v
  | some (g, b) => isSt o.op = false ∧ ∃ t v m, m ≤ 1 ∧ gv s.e g b = some t ∧ f = ⟨1, [], none, .opt t v⟩ ∧ (t = true → achR P o.im o.op s.e (vis rows0 nx0 s.cur s.tg s.e fl o.op) s.k m [] v)

def nextSt (fl : Bool) (o : RP) (s : St) (f : Fact) : St :=
  match f.ov with
  | some (id, r) => ⟨s.k + f.m, over s.cur id r, id :: s.tg, s.fr, put s.e o.dst f.v⟩
  | none => ⟨s.k + f.m, f.new ++ s.cur, s.tg, frs s.e fl o.op s.fr, put s.e o.dst f.v⟩
def allOK (P : Program) (rows0 : Rows) (nx0 : Nat) : List (Bool × RP) → List Fact → St → Prop
  | (fl, o) :: l, f :: fs, s => factOK P rows0 nx0 fl o s f ∧ allOK P rows0 nx0 l fs (nextSt fl o s f)
  | [], [], _ => True
  | _, _, _ => False
def lastSt : List (Bool × RP) → List Fact → St → St
  | (fl, o) :: l, f :: fs, s => lastSt l fs (nextSt fl o s f)
  | _, _, s => s

theorem opD_cases {P : Program} {im : Bool} {op : ROp} {e : Env} {rows : Rows} {k : Nat} {K : Nat → Rows → AV → Prop} (h : opD P im op e rows k K) : ∃ m new v, achR P im op e rows k m new v ∧ K m new v := by
  cases op <;> try exact ⟨_, _, _, ⟨h.1, rfl, rfl, rfl⟩, h.2⟩
  case bslice sz n z ps =>
    obtain ⟨h1, h2⟩ := h
    cases im with
    | true => exact ⟨1, _, _, ⟨h1, rfl, .inr ⟨rfl, h2.1, rfl, rfl⟩⟩, h2.2⟩
    | false => exact ⟨1, _, _, ⟨h1, rfl, .inl ⟨rfl, rfl, rfl⟩⟩, h2⟩
  case st => exact h.elim
  case app => exact h.elim
  case pan => exact h.elim
  case cpy => exact h.elim
  case cal f xs =>
    obtain ⟨h1, m, new, v, h3, h4⟩ := h
    exact ⟨m, new, v, ⟨h1, h3⟩, h4⟩
  case cav f xs =>
    obtain ⟨h0, h1, h2⟩ := h
    split at h2
    · rename_i g a b hg
      obtain ⟨m, new, v, h4, h5⟩ := h2
      exact ⟨m, new, v, ⟨h0, h1, g, a, b, hg, h4⟩, h5⟩
    · exact h2.elim

theorem rowAt_some {cur : Rows} {sz : Nat} {a x : AV} (h : stC cur sz a x) : ∃ id r q i off, a = .pt id q i off ∧ look cur id = some r ∧ rowAt cur a x = some (id, ⟨r.sz, r.es.set i (splice (r.es.getD i []) off x.cells)⟩) ∧
    stR cur a x = over cur id ⟨r.sz, r.es.set i (splice (r.es.getD i []) off x.cells)⟩ := by
  obtain ⟨h1, _⟩ := h
  cases a with
  | pt id q i off =>
    simp only at h1
    cases hl : look cur id with
    | none => rw [hl] at h1; exact h1.elim
    | some r => exact ⟨id, r, q, i, off, rfl, hl, by simp [rowAt, hl], by simp [stR, hl]⟩
  | _ => exact h1.elim

theorem dR_facts {P : Program} {rows0 : Rows} {nx0 : Nat} : ∀ {l : List (Bool × RP)} {k : Nat} {cur : Rows} {tg fr : List Nat} {K : Env → Store → Prop} {e : Env}, dR P rows0 nx0 l k cur tg fr K e →
    ∃ fs : List Fact, fs.length = l.length ∧ allOK P rows0 nx0 l fs ⟨k, cur, tg, fr, e⟩ ∧ K (lastSt l fs ⟨k, cur, tg, fr, e⟩).e ⟨(lastSt l fs ⟨k, cur, tg, fr, e⟩).k, (lastSt l fs ⟨k, cur, tg, fr, e⟩).cur⟩
  | [], k, cur, tg, fr, K, e, h => ⟨[], rfl, trivial, h⟩
  | (fl, o) :: l, k, cur, tg, fr, K, e, h => by
    unfold dR at h
    have cons : ∀ {f : Fact}, factOK P rows0 nx0 fl o ⟨k, cur, tg, fr, e⟩ f → dR P rows0 nx0 l (nextSt fl o ⟨k, cur, tg, fr, e⟩ f).k (nextSt fl o ⟨k, cur, tg, fr, e⟩ f).cur (nextSt fl o ⟨k, cur, tg, fr, e⟩ f).tg (nextSt fl o ⟨k, cur, tg, fr, e⟩ f).fr K (nextSt fl o ⟨k, cur, tg, fr, e⟩ f).e →
        ∃ fs : List Fact, fs.length = ((fl, o) :: l).length ∧ allOK P rows0 nx0 ((fl, o) :: l) fs ⟨k, cur, tg, fr, e⟩ ∧ K (lastSt ((fl, o) :: l) fs ⟨k, cur, tg, fr, e⟩).e ⟨(lastSt ((fl, o) :: l) fs ⟨k, cur, tg, fr, e⟩).k, (lastSt ((fl, o) :: l) fs ⟨k, cur, tg, fr, e⟩).cur⟩ := by
      intro f h1 h2
      obtain ⟨fs, g1, g2, g3⟩ := dR_facts h2
      exact ⟨f :: fs, by simp [g1], ⟨h1, g2⟩, g3⟩
    have pure : ∀ {op : ROp}, o.guard = none → o.op = op → isSt op = false → opD P o.im op e (vis rows0 nx0 cur tg e fl op) k (fun m new v => dR P rows0 nx0 l (k + m) (new ++ cur) tg (frs e fl op fr) K (put e o.dst v)) →
        ∃ fs : List Fact, fs.length = ((fl, o) :: l).length ∧ allOK P rows0 nx0 ((fl, o) :: l) fs ⟨k, cur, tg, fr, e⟩ ∧ K (lastSt ((fl, o) :: l) fs ⟨k, cur, tg, fr, e⟩).e ⟨(lastSt ((fl, o) :: l) fs ⟨k, cur, tg, fr, e⟩).k, (lastSt ((fl, o) :: l) fs ⟨k, cur, tg, fr, e⟩).cur⟩ := by
      intro op hg hop hst h
      obtain ⟨m, new, v, h1, h2⟩ := opD_cases h
      refine cons (f := ⟨m, new, none, v⟩) ?_ (by simp only [nextSt, hop]; exact h2)
      unfold factOK
      rw [hg, hop]
      cases op <;> first | exact ⟨rfl, h1⟩ | cases hst
    cases hg : o.guard with
    | none =>
      rw [hg] at h
      cases hop : o.op with
      | st sz a x =>
        rw [hop] at h
        obtain ⟨h1, h2, h3, h4, h5, h6⟩ := h
        obtain ⟨id, r, q, i, off, ha, hl, hr, hR⟩ := rowAt_some h3
        refine cons (f := ⟨1, [], rowAt cur (sv e a) (sv e x), .any⟩) (by unfold factOK; rw [hg, hop]; exact ⟨h1, h2, h3, h4, h5, rfl⟩) ?_
        simp only [nextSt, hr]
        rw [hR] at h6
        have : tgt (sv e a) = id := by rw [ha]; rfl
        rw [this] at h6
        exact h6
      | _ => rw [hop] at h; exact pure hg hop rfl h
    | some gb =>
      obtain ⟨g, b⟩ := gb
      rw [hg] at h
      simp only at h
      split at h
      · rename_i t ht
        split at h
        · rename_i hno
          obtain ⟨m, v, hm, h1, h2⟩ := opG_cases h hno
          refine cons (f := ⟨1, [], none, .opt t v⟩) ?_ (by simp only [nextSt, List.nil_append]; exact h2)
          unfold factOK
          rw [hg]
          refine ⟨?_, t, v, m, hm, ht, rfl, h1⟩
          cases hop : o.op <;> first | rfl | (rw [hop] at hno; cases hno)
        · exact h.elim
      · exact h.elim

theorem allOK_get {P : Program} {rows0 : Rows} {nx0 : Nat} : ∀ {l : List (Bool × RP)} {fs : List Fact} {s : St}, allOK P rows0 nx0 l fs s → ∀ (i : Nat) (fl : Bool) (o : RP), l[i]? = some (fl, o) →
    ∃ f, fs[i]? = some f ∧ factOK P rows0 nx0 fl o (lastSt (l.take i) (fs.take i) s) f
  | [], [], s, h, i, fl, o, ho => by simp at ho
  | (fl', x) :: l, f :: fs, s, h, i, fl, o, ho => by
    cases i with
    | zero => simp at ho; obtain ⟨rfl, rfl⟩ := ho; exact ⟨f, rfl, h.1⟩
    | succ i =>
      obtain ⟨f', h1, h2⟩ := allOK_get h.2 i fl o (by simpa using ho)
      exact ⟨f', by simpa using h1, by simpa [lastSt] using h2⟩
  | [], _ :: _, s, h, _, _, _, _ => h.elim
  | _ :: _, [], s, h, _, _, _, _ => h.elim

/-- The state before the operation j. -/
def stF (l : List (Bool × RP)) (fs : List Fact) (s : St) (j : Nat) : St := lastSt (l.take j) (fs.take j) s

theorem lastSt_succ : ∀ {l : List (Bool × RP)} {fs : List Fact} {s : St} {i : Nat} {fl : Bool} {o : RP} {f : Fact}, l[i]? = some (fl, o) → fs[i]? = some f → stF l fs s (i + 1) = nextSt fl o (stF l fs s i) f
  | [], fs, s, i, fl, o, f, h1, h2 => by simp at h1
  | x :: l, [], s, i, fl, o, f, h1, h2 => by simp at h2
  | (fl', x) :: l, f' :: fs, s, i, fl, o, f, h1, h2 => by
    cases i with
    | zero => simp at h1 h2; obtain ⟨rfl, rfl⟩ := h1; subst h2; simp [stF, lastSt]
    | succ i =>
      have := lastSt_succ (s := nextSt fl' x s f') (i := i) (by simpa using h1) (by simpa using h2)
      simpa [stF, lastSt] using this
theorem stF_all {l : List (Bool × RP)} {fs : List Fact} {s : St} (h : fs.length = l.length) : stF l fs s l.length = lastSt l fs s := by unfold stF; rw [List.take_length, List.take_of_length_le (by omega)]
theorem stF_zero {l : List (Bool × RP)} {fs : List Fact} {s : St} : stF l fs s 0 = s := by cases l <;> cases fs <;> rfl

theorem nextSt_k (fl : Bool) (o : RP) (s : St) (f : Fact) : (nextSt fl o s f).k = s.k + f.m := by unfold nextSt; split <;> rfl
theorem nextSt_e (fl : Bool) (o : RP) (s : St) (f : Fact) : (nextSt fl o s f).e = put s.e o.dst f.v := by unfold nextSt; split <;> rfl

/-- How an operation touches a row. -/
def touch (f : Fact) (id : Nat) : Option Row :=
  match f.ov with
  | some (t, r) => bif t == id then some r else none
  | none => look f.new id
theorem look_nextSt {fl : Bool} {o : RP} {s : St} {f : Fact} {id : Nat} (ht : ∀ t r, f.ov = some (t, r) → ∃ r0, look s.cur t = some r0) : look (nextSt fl o s f).cur id = match touch f id with | some r => some r | none => look s.cur id := by
  unfold nextSt touch
  cases hov : f.ov with
  | none => simp only [look_append]; cases look f.new id <;> rfl
  | some x =>
    obtain ⟨t, r⟩ := x
    simp only [look_over]
    obtain ⟨r0, h0⟩ := ht t r hov
    by_cases h : t = id
    · subst h; simp [h0]
    · rw [if_neg (Ne.symm h)]; simp [beq_false_of_ne h]

/-- The rows after those operations alone that L tells. -/
def lkF (L : Nat → Bool) (id : Nat) : Nat → List Fact → Option Row → Option Row
  | _, [], x => x
  | j, f :: fs, x => lkF L id (j + 1) fs (bif L j then (match touch f id with | some r => some r | none => x) else x)

theorem lkF_agree {L L' : Nat → Bool} {id : Nat} : ∀ {fs : List Fact} {j : Nat} {x : Option Row}, (∀ i f, fs[i]? = some f → (touch f id).isSome = true → L (j + i) = L' (j + i)) → lkF L id j fs x = lkF L' id j fs x
  | [], j, x, h => rfl
  | f :: fs, j, x, h => by
    simp only [lkF]
    have h0 : (bif L j then (match touch f id with | some r => some r | none => x) else x) = (bif L' j then (match touch f id with | some r => some r | none => x) else x) := by
      cases ht : touch f id with
      | none => cases L j <;> cases L' j <;> rfl
      | some r => rw [show L j = L' j from by simpa using h 0 f rfl (by simp [ht])]
    rw [h0]
    exact lkF_agree fun i f' hi ht => by rw [show j + 1 + i = j + (i + 1) by omega]; exact h (i + 1) f' (by simpa using hi) ht

theorem lkF_none {L : Nat → Bool} {id : Nat} : ∀ {fs : List Fact} {j : Nat} {x : Option Row}, (∀ i f, fs[i]? = some f → (touch f id).isSome = true → L (j + i) = false) → lkF L id j fs x = x
  | [], j, x, h => rfl
  | f :: fs, j, x, h => by
    simp only [lkF]
    have h0 : (bif L j then (match touch f id with | some r => some r | none => x) else x) = x := by
      cases ht : touch f id with
      | none => cases L j <;> rfl
      | some r => rw [show L j = false from by simpa using h 0 f rfl (by simp [ht])]; rfl
    rw [h0]
    exact lkF_none fun i f' hi ht => by rw [show j + 1 + i = j + (i + 1) by omega]; exact h (i + 1) f' (by simpa using hi) ht

theorem lkF_hit {L : Nat → Bool} {id : Nat} {r : Row} : ∀ {fs : List Fact} {j : Nat} {x : Option Row} (i : Nat) (f : Fact), fs[i]? = some f → touch f id = some r → L (j + i) = true →
    (∀ i' f', fs[i']? = some f' → i < i' → (touch f' id).isSome = true → L (j + i') = false) → lkF L id j fs x = some r
  | [], j, x, i, f, hi, _, _, _ => by simp at hi
  | f0 :: fs, j, x, i, f, hi, ht, hL, h => by
    simp only [lkF]
    cases i with
    | zero =>
      simp at hi; subst hi
      rw [show L j = true from by simpa using hL, ht]
      exact lkF_none fun i' f' hi' ht' => by rw [show j + 1 + i' = j + (i' + 1) by omega]; exact h (i' + 1) f' (by simpa using hi') (by omega) ht'
    | succ i => exact lkF_hit i f (by simpa using hi) ht (by rw [show j + 1 + i = j + (i + 1) by omega]; exact hL) fun i' f' hi' hlt ht' => by rw [show j + 1 + i' = j + (i' + 1) by omega]; exact h (i' + 1) f' (by simpa using hi') (by omega) ht'

/-- The rows in the order of the list. -/
theorem lkF_pre {l : List (Bool × RP)} {id : Nat} : ∀ {fs : List Fact} {s : St} (_ : fs.length = l.length) (_ : ∀ i fl o f, l[i]? = some (fl, o) → fs[i]? = some f → ∀ t r, f.ov = some (t, r) → ∃ r0, look (stF l fs s i).cur t = some r0) (n : Nat) (_ : n ≤ l.length),
    look (stF l fs s n).cur id = lkF (fun j => decide (j < n)) id 0 fs (look s.cur id) := by
  intro fs s hlen hov n hn
  induction n with
  | zero => rw [stF_zero, lkF_none]; intro i f hi ht; simp
  | succ n ih =>
    obtain ⟨⟨fl, o⟩, ho⟩ : ∃ x, l[n]? = some x := ⟨_, List.getElem?_eq_getElem (by omega)⟩
    obtain ⟨f, hf⟩ : ∃ f, fs[n]? = some f := ⟨_, List.getElem?_eq_getElem (by omega)⟩
    rw [lastSt_succ ho hf, look_nextSt (hov n fl o f ho hf), ih (by omega)]
    cases ht : touch f id with
    | some r => exact (lkF_hit n f hf ht (by simp) fun i' f' _ hlt _ => by simp; omega).symm
    | none =>
      refine lkF_agree fun i f' hi ht' => ?_
      have : i ≠ n := by rintro rfl; rw [hf] at hi; cases hi; rw [ht] at ht'; cases ht'
      simp only [Nat.zero_add, decide_eq_decide]; omega


theorem achR_rng {P : Program} {im : Bool} {op : ROp} {e : Env} {rows : Rows} {k m : Nat} {new : Rows} {v : AV} (h : achR P im op e rows k m new v) : ∀ id r, look new id = some r → k ≤ id ∧ id < k + m := by
  have pr : ∀ {row : Option Row}, m = 1 → new = push [] k row → ∀ id r, look new id = some r → k ≤ id ∧ id < k + m := by
    rintro row rfl rfl id r hl
    cases row with
    | none => simp [push, look] at hl
    | some r1 =>
      simp only [push, look_cons] at hl
      split at hl
      · omega
      · simp [look] at hl
  cases op <;> try exact pr h.2.1 h.2.2.1
  case bslice =>
    obtain ⟨_, h1, h2⟩ := h
    rcases h2 with ⟨_, rfl, _⟩ | ⟨_, _, rfl, _⟩
    · exact pr (row := some _) h1 rfl
    · exact pr (row := none) h1 rfl
  case cal => exact h.2.rng
  case cav => obtain ⟨_, _, _, _, _, _, h⟩ := h; exact h.rng

/-- The static side of a region that draws: 'n': so many operations may come in any order. -/
def readsT (ops : Array Oper) (o : Oper) (t : Nat) : Bool :=
  o.op.operands.any (fun | .tmp u => u == t | _ => false) || (match o.guard with | some (j, _) => ((ops[j]?).bind (·.dst)) == some t | none => false)
def pairOK (ops : Array Oper) (n i j : Nat) : Bool :=
  match ops[i]?, ops[j]? with
  | some oi, some oj => match oj.dst with
    | some t => (i == j || oi.dst != some t) && (!readsT ops oi t || (decide (j < i) && Region.waitsFor .any ops i j))
    | none => true
  | _, _ => false
def backOK (ops : Array Oper) (i : Nat) : Bool :=
  match ops[i]? with
  | some o => o.after.all fun e => !Region.binds .any e || decide (e.on < i)
  | none => false
def isStO (o : Oper) : Bool := match o.op with | .store _ _ _ => true | _ => false
def ordB (ops : Array Oper) (i j : Nat) : Bool := (decide (i < j) && Region.waitsFor .any ops j i) || (decide (j < i) && Region.waitsFor .any ops i j)
def flB (ops : Array Oper) (n i : Nat) : Bool := (List.range n).any fun j => j != i && (ops[j]?).any isStO && !ordB ops i j
def drawOK (ops : Array Oper) (n : Nat) : Bool :=
  ((List.range n).all fun i => backOK ops i && (!(ops[i]?).any isStO || !flB ops n i) && (List.range n).all fun j => pairOK ops n i j) && decide (n ≤ ops.size) && (decide (n = ops.size) || (Region.sinkB .any ops n && Region.chainB .any ops n)) &&
  Region.seqB .any ops (ops.size - n) n (Array.ofFn (n := ops.size) fun i => decide (i.val < n))

theorem seqB_cons {md : Region.Mode} {ops : Array Oper} {g k : Nat} {listed : Array Bool} : Region.seqB md ops (g + 1) k listed = (decide (Region.ready md ops listed = [k]) && Region.seqB md ops g (k + 1) (listed.setIfInBounds k true)) := rfl

theorem wpAnyIn_of_seq {Fe : Fence} {n : Nat} {P : Program} {md : Region.Mode} {ops : Array Oper} {Q' : Exit → Act → World → Prop} : ∀ (l : List Oper) (k : Nat) (listed : Array Bool) (a : Act) (w : World), (∀ j, l[j]? = ops[k + j]?) →
    Region.seqB md ops l.length k listed = true → wpListIn Fe n P ops Q' l a w → wpAnyIn Fe n P md ops Q' l.length listed a w
  | [], _, _, _, _, _, hB, h => ⟨by simpa [Region.seqB] using hB, h⟩
  | o :: l, k, listed, a, w, hl, hB, h => by
    have h0 : ops[k]? = some o := by simpa using (hl 0).symm
    simp only [List.length_cons, Region.seqB, Bool.and_eq_true, decide_eq_true_eq] at hB
    refine ⟨fun h1 => (by rw [hB.1] at h1; cases h1), fun i hi => ?_⟩
    rw [hB.1] at hi
    have hik : i = k := by simpa using hi
    subst hik
    have hw : wpOpIn Fe n P ops Q' i (wpListIn Fe n P ops Q' l) a w := by unfold wpOpIn; simp only [h0]; exact h
    exact wpOpIn_mono (fun a' w' h' => wpAnyIn_of_seq l (i + 1) _ a' w' (fun j => by have := hl (j + 1); simpa [Nat.add_assoc, Nat.add_comm 1 j] using this) hB.2 h') hw

def cnt (listed : Array Bool) : Nat → Nat
  | 0 => 0
  | n + 1 => cnt listed n + (if listed.getD n false = true then 0 else 1)

theorem cnt_zero {listed : Array Bool} : ∀ {n : Nat}, cnt listed n = 0 → ∀ i, i < n → listed.getD i false = true
  | n + 1, h, i, hi => by
    simp only [cnt] at h
    by_cases hc : listed.getD n false = true
    · rw [if_pos hc] at h
      rcases Nat.lt_or_ge i n with h1 | h1
      · exact cnt_zero (by omega) i h1
      · rw [show i = n by omega]; exact hc
    · rw [if_neg hc] at h; omega

theorem cnt_set_ge {listed : Array Bool} {i : Nat} : ∀ {n : Nat}, n ≤ i → cnt (listed.setIfInBounds i true) n = cnt listed n
  | 0, _ => rfl
  | n + 1, h => by simp only [cnt]; rw [cnt_set_ge (by omega), getD_set_ne false (by omega)]

theorem cnt_set {listed : Array Bool} {i : Nat} (hs : i < listed.size) (hu : listed.getD i false = false) : ∀ {n : Nat}, i < n → cnt (listed.setIfInBounds i true) n + 1 = cnt listed n
  | n + 1, h => by
    simp only [cnt]
    by_cases hin : i = n
    · subst hin
      rw [cnt_set_ge (Nat.le_refl _)]
      have : (listed.setIfInBounds i true).getD i false = true := by simp [hs]
      rw [if_pos this, if_neg (by rw [hu]; simp)]
    · rw [getD_set_ne false hin]
      have := cnt_set hs hu (n := n) (by omega)
      omega

theorem cnt_pos {listed : Array Bool} : ∀ {n : Nat}, 0 < cnt listed n → ∃ i, i < n ∧ listed.getD i false = false ∧ ∀ j, j < i → listed.getD j false = true
  | n + 1, h => by
    by_cases h0 : 0 < cnt listed n
    · obtain ⟨i, h1, h2⟩ := cnt_pos h0
      exact ⟨i, by omega, h2⟩
    · have hz : cnt listed n = 0 := by omega
      refine ⟨n, Nat.lt_succ_self n, ?_, cnt_zero hz⟩
      simp only [cnt, hz] at h
      cases hb : listed.getD n false with
      | false => rfl
      | true => rw [if_pos hb] at h; omega


theorem get_lastSt : ∀ (l : List (Bool × RP)) (fs : List Fact) (s : St) (t : Nat), fs.length = l.length →
    (get (lastSt l fs s).e t = get s.e t ∧ ∀ (j : Nat) (fl : Bool) (o : RP), l[j]? = some (fl, o) → o.dst ≠ some t) ∨ ∃ (j : Nat) (fl : Bool) (o : RP) (f : Fact), l[j]? = some (fl, o) ∧ fs[j]? = some f ∧ o.dst = some t ∧ get (lastSt l fs s).e t = f.v
  | [], [], s, t, _ => .inl ⟨rfl, by simp⟩
  | (fl, o) :: l, f :: fs, s, t, h => by
    simp only [lastSt]
    rcases get_lastSt l fs (nextSt fl o s f) t (by simpa using h) with ⟨h1, h2⟩ | ⟨j, fl', o', f', h1, h2, h3, h4⟩
    · rw [nextSt_e, get_put] at h1
      by_cases hd : o.dst = some t
      · rw [if_pos hd] at h1
        exact .inr ⟨0, fl, o, f, rfl, rfl, hd, h1⟩
      · rw [if_neg hd] at h1
        refine .inl ⟨h1, fun j fl' o' hj => ?_⟩
        cases j with
        | zero => simp at hj; obtain ⟨rfl, rfl⟩ := hj; exact hd
        | succ j => exact h2 j fl' o' (by simpa using hj)
    · exact .inr ⟨j + 1, fl', o', f', by simpa using h1, by simpa using h2, h3, h4⟩

section
variable {P : Program} {N n0 : Nat} {ops : Array Oper}

/-- What is known of the facts, whatever the order. -/
structure Known (P : Program) (rs : List (Bool × RP)) (fs : List Fact) (s : Store) (e : Env) : Prop where
  len : fs.length = rs.length
  all : allOK P s.rows s.nx rs fs ⟨s.nx, s.rows, [], [], e⟩

def bs (rs : List (Bool × RP)) (fs : List Fact) (s : Store) (e : Env) (j : Nat) : St := stF rs fs ⟨s.nx, s.rows, [], [], e⟩ j

theorem Known.fact {rs : List (Bool × RP)} {fs : List Fact} {s : Store} {e : Env} (h : Known P rs fs s e) {i : Nat} {fl : Bool} {o : RP} (ho : rs[i]? = some (fl, o)) : ∃ f, fs[i]? = some f ∧ factOK P s.rows s.nx fl o (bs rs fs s e i) f := allOK_get h.all i fl o ho
theorem Known.succ {rs : List (Bool × RP)} {fs : List Fact} {s : Store} {e : Env} {i : Nat} {fl : Bool} {o : RP} {f : Fact} (ho : rs[i]? = some (fl, o)) (hf : fs[i]? = some f) : bs rs fs s e (i + 1) = nextSt fl o (bs rs fs s e i) f := lastSt_succ ho hf
theorem Known.at {rs : List (Bool × RP)} {fs : List Fact} {s : Store} {e : Env} (h : Known P rs fs s e) {i : Nat} {f : Fact} (hf : fs[i]? = some f) : ∃ fl o, rs[i]? = some (fl, o) ∧ factOK P s.rows s.nx fl o (bs rs fs s e i) f := by
  have hl : i < rs.length := by rw [← h.len]; exact (List.getElem?_eq_some_iff.1 hf).1
  obtain ⟨⟨fl, o⟩, ho⟩ : ∃ x, rs[i]? = some x := ⟨_, List.getElem?_eq_getElem hl⟩
  obtain ⟨f', h1, h2⟩ := h.fact ho
  rw [hf] at h1; cases h1
  exact ⟨fl, o, ho, h2⟩
theorem Known.mono {rs : List (Bool × RP)} {fs : List Fact} {s : Store} {e : Env} (h : Known P rs fs s e) {i j : Nat} (hij : i ≤ j) (hj : j ≤ rs.length) : (bs rs fs s e i).k ≤ (bs rs fs s e j).k := by
  induction j with
  | zero => have : i = 0 := by omega
            subst this; exact Nat.le_refl _
  | succ j ih =>
    rcases Nat.lt_or_ge j i with h1 | h1
    · have : i = j + 1 := by omega
      subst this; exact Nat.le_refl _
    · obtain ⟨⟨fl, o⟩, ho⟩ : ∃ x, rs[j]? = some x := ⟨_, List.getElem?_eq_getElem (by omega)⟩
      obtain ⟨f, hf, _⟩ := h.fact ho
      rw [Known.succ ho hf, nextSt_k]
      have := ih h1 (by omega)
      omega
theorem Known.base {rs : List (Bool × RP)} {fs : List Fact} {s : Store} {e : Env} (h : Known P rs fs s e) {j : Nat} (hj : j ≤ rs.length) : s.nx ≤ (bs rs fs s e j).k := by
  have := h.mono (Nat.zero_le j) hj
  unfold bs at this ⊢
  rwa [stF_zero] at this

/-- A store's fact. -/
theorem factOK_st {rows0 : Rows} {nx0 : Nat} {fl : Bool} {o : RP} {s : St} {f : Fact} (h : factOK P rows0 nx0 fl o s f) {t : Nat} {r : Row} (hov : f.ov = some (t, r)) :
    ∃ sz a x r0, o.guard = none ∧ o.op = .st sz a x ∧ lv s.e a ∧ lv s.e x ∧ stC s.cur sz (sv s.e a) (sv s.e x) ∧ t < s.k ∧ s.fr.contains t = false ∧ f.m = 1 ∧ f.new = [] ∧ f.v = .any ∧ look s.cur t = some r0 ∧ rowAt s.cur (sv s.e a) (sv s.e x) = some (t, r) ∧ tgt (sv s.e a) = t := by
  unfold factOK at h
  cases hg : o.guard with
  | none =>
    rw [hg] at h
    cases hop : o.op with
    | st sz a x =>
      rw [hop] at h
      obtain ⟨h1, h2, h3, h4, h5, rfl⟩ := h
      obtain ⟨id, r0, q, i, off, ha, hl, hr, _⟩ := rowAt_some h3
      simp only at hov
      have e1 := hr.symm.trans hov
      injection e1 with e1; injection e1 with e1 e2; subst e1
      have e3 : tgt (sv s.e a) = id := by rw [ha]; rfl
      exact ⟨sz, a, x, r0, rfl, rfl, h1, h2, h3, e3 ▸ h4, e3 ▸ h5, rfl, rfl, rfl, hl, hov, e3⟩
    | _ => rw [hop] at h; rw [h.1] at hov; cases hov
  | some gb =>
    obtain ⟨g, b⟩ := gb
    rw [hg] at h
    obtain ⟨_, t', v, m, _, _, rfl, _⟩ := h
    cases hov
theorem factOK_rng {rows0 : Rows} {nx0 : Nat} {fl : Bool} {o : RP} {s : St} {f : Fact} (h : factOK P rows0 nx0 fl o s f) : ∀ id r, look f.new id = some r → s.k ≤ id ∧ id < s.k + f.m := by
  unfold factOK at h
  cases hg : o.guard with
  | none =>
    rw [hg] at h
    cases hop : o.op with
    | st sz a x =>
      rw [hop] at h
      obtain ⟨h1, h2, h3, h4, h5, rfl⟩ := h
      intro id r hl; simp [look] at hl
    | _ => rw [hop] at h; exact achR_rng h.2
  | some gb =>
    obtain ⟨g, b⟩ := gb
    rw [hg] at h
    obtain ⟨_, t', v, m, _, _, rfl, _⟩ := h
    intro id r hl; simp [look] at hl

theorem Known.pre {rs : List (Bool × RP)} {fs : List Fact} {s : Store} {e : Env} (h : Known P rs fs s e) {id n : Nat} (hn : n ≤ rs.length) : look (bs rs fs s e n).cur id = lkF (fun j => decide (j < n)) id 0 fs (look s.rows id) := by
  refine lkF_pre h.len (fun i fl o f ho hf t r hov => ?_) n hn
  obtain ⟨f', h1, h2⟩ := h.fact ho
  rw [hf] at h1; cases h1
  obtain ⟨_, _, _, r0, _, _, _, _, _, _, _, _, _, _, h3, _⟩ := factOK_st h2 hov
  exact ⟨r0, h3⟩

theorem Known.touch {rs : List (Bool × RP)} {fs : List Fact} {s : Store} {e : Env} (h : Known P rs fs s e) {j id : Nat} {f : Fact} (hf : fs[j]? = some f) (ht : (touch f id).isSome = true) :
    (∃ r, f.ov = some (id, r) ∧ id < (bs rs fs s e j).k) ∨ (f.ov = none ∧ (bs rs fs s e j).k ≤ id ∧ id < (bs rs fs s e (j + 1)).k) := by
  obtain ⟨fl, o, ho, h1⟩ := h.at hf
  unfold Ai.touch at ht
  cases hov : f.ov with
  | some x =>
    obtain ⟨t, r⟩ := x
    rw [hov] at ht
    cases htt : t == id with
    | false => simp [htt] at ht
    | true =>
      obtain rfl : t = id := by simpa using htt
      obtain ⟨_, _, _, _, _, _, _, _, _, h2, _⟩ := factOK_st h1 hov
      exact .inl ⟨r, rfl, h2⟩
  | none =>
    rw [hov] at ht
    obtain ⟨r, hr⟩ := Option.isSome_iff_exists.1 ht
    rw [Known.succ ho hf, nextSt_k]
    exact .inr ⟨rfl, factOK_rng h1 id r hr⟩

/-- What a store before has for its target, what is read before. -/
theorem Known.tgs {rs : List (Bool × RP)} {fs : List Fact} {s : Store} {e : Env} (h : Known P rs fs s e) {i j t : Nat} {r : Row} {f : Fact} (hf : fs[j]? = some f) (hov : f.ov = some (t, r)) (hij : j < i) (hi : i ≤ rs.length) : t ∈ (bs rs fs s e i).tg := by
  induction i with
  | zero => omega
  | succ i ih =>
    obtain ⟨⟨fl, o⟩, ho⟩ : ∃ x, rs[i]? = some x := ⟨_, List.getElem?_eq_getElem (by omega)⟩
    obtain ⟨f', hf', _⟩ := h.fact ho
    rw [Known.succ ho hf']
    rcases Nat.lt_or_ge j i with h1 | h1
    · have := ih h1 (by omega)
      unfold nextSt; split
      · exact List.mem_cons_of_mem _ this
      · exact this
    · obtain rfl : j = i := by omega
      rw [hf] at hf'; cases hf'
      unfold nextSt; rw [hov]; exact List.mem_cons_self
theorem Known.frs {rs : List (Bool × RP)} {fs : List Fact} {s : Store} {e : Env} (h : Known P rs fs s e) {i j t : Nat} (ht : t ∈ (bs rs fs s e i).fr) (hij : i ≤ j) (hj : j ≤ rs.length) : t ∈ (bs rs fs s e j).fr := by
  induction j with
  | zero => have : i = 0 := by omega
            subst this; exact ht
  | succ j ih =>
    rcases Nat.lt_or_ge j i with h1 | h1
    · have : i = j + 1 := by omega
      subst this; exact ht
    · have := ih h1 (by omega)
      obtain ⟨⟨fl, o⟩, ho⟩ : ∃ x, rs[j]? = some x := ⟨_, List.getElem?_eq_getElem (by omega)⟩
      obtain ⟨f, hf, _⟩ := h.fact ho
      rw [Known.succ ho hf]
      unfold nextSt; split
      · exact this
      · unfold Ai.frs
        split
        · exact this
        · split
          · exact List.mem_cons_of_mem _ this
          · exact this
end

section
variable {P : Program} {N n0 : Nat} {ops : Array Oper}

theorem vr_opd' {F : Nat → Prop} {w : World} {p : Place} {D : Nat → Prop} {e : Env} {a : Act} {x : Operand} {y : Opd} (hold : Old F w) (he : ∀ t, x = .tmp t → VR F w p D (get e t) (a.tmps.getD t undef)) (h : opd x = some y) : VR F w p D (ev e y) (a.eval x) := by
  cases x with
  | tmp t => simp only [opd, Option.some.injEq] at h; subst h; exact he t rfl
  | const v =>
    simp only [opd] at h
    cases hv : ofVal v with
    | none => rw [hv] at h; cases h
    | some z => rw [hv] at h; cases h; exact vr_ofVal hv
  | func f => simp only [opd, Option.some.injEq] at h; subst h; exact .fn _ _ _ _ _ rfl rfl (by simp) (by simp)
  | global g =>
    simp only [opd] at h
    cases hg : gtab.any fun x => x.1 == g with
    | false => rw [hg] at h; cases h
    | true => rw [hg] at h; cases h; exact vr_glob hold hg

/-- Whether an operation is wanted, from the guard's temporary alone. -/
theorem wanted_of' {F : Nat → Prop} {w : World} {p : Place} {D : Nat → Prop} {e : Env} {o : Oper} {a : Act} {g : Option (Nat × Bool)}
    (he : ∀ t b, g = some (t, b) → VR F w p D (get e t) (a.tmps.getD t undef)) (hg : liteG ops o.guard = some g) :
    (g = none → Region.wanted o (yielded ops a.tmps) = true) ∧ (∀ t b c, g = some (t, b) → gv e t b = some c → Region.wanted o (yielded ops a.tmps) = c) := by
  have key := fun (t : Nat) => wanted_of (N := a.tmps.size) (F := F) (w := w) (p := p) (D := D) (e := [(t, get e t)]) (ops := ops) (o := o) (a := a) (g := g)
  cases g with
  | none =>
    refine ⟨fun _ => ?_, fun t b c h => by cases h⟩
    exact (wanted_of (N := a.tmps.size) (F := F) (w := w) (p := p) (D := D) (e := []) (ops := ops) (o := o) (a := a) (g := none) ⟨rfl, fun t => .any _⟩ hg).1 rfl
  | some x =>
    obtain ⟨t, b⟩ := x
    refine ⟨fun h => (by cases h), fun t' b' c h hc => ?_⟩
    cases h
    refine (key t ⟨rfl, fun t' => ?_⟩ hg).2 t b c rfl ?_
    · simp only [get]
      by_cases htt : t = t'
      · subst htt; simp only [beq_self_eq_true, cond_true]; exact he t b rfl
      · simp only [beq_false_of_ne htt, cond_false]; exact .any _
    · simpa [gv, get] using hc


def DLt (rs : List (Bool × RP)) (fs : List Fact) (s : Store) (e : Env) (L : Nat → Bool) (i : Nat) : Prop := i < s.nx ∨ ∃ j, j < rs.length ∧ L j = true ∧ (bs rs fs s e j).k ≤ i ∧ i < (bs rs fs s e (j + 1)).k

/-- The state in the midst of the head. -/
structure Mid (N : Nat) (rs : List (Bool × RP)) (fs : List Fact) (e : Env) (s : Store) (F0 : Nat → Prop) (w0 : World) (p0 : Place) (ds : List Deferred) (L : Nat → Bool) (F : Nat → Prop) (p : Place) (a : Act) (w : World) : Prop where
  os : w.os = w0.os
  tape : w.tape = w0.tape
  output : w.output = w0.output
  wsize : w0.heap.size ≤ w.heap.size
  same : ∀ b, b < w0.heap.size → ¬ RowAt p0 s b → w.heap[b]? = w0.heap[b]?
  cells : ∀ (b : Nat) (c : Array Value) (t : TypeId) (fz : Nat × Nat), w0.heap[b]? = some (Obj.cells c t fz) → ∃ (c' : Array Value) (t' : TypeId) (fz' : Nat × Nat), w.heap[b]? = some (Obj.cells c' t' fz') ∧ c'.size = c.size
  inF : ∀ b, F0 b → F b
  newF : ∀ b, F b → F0 b ∨ (w0.heap.size ≤ b ∧ b < w.heap.size)
  keep : ∀ i, i < s.nx → p i = p0 i
  defs : a.defers = ds
  size : a.tmps.size = N
  oldF : Old F w
  new : ∀ j fl o f t, rs[j]? = some (fl, o) → fs[j]? = some f → L j = true → o.dst = some t → VR F w p (DLt rs fs s e L) f.v (a.tmps.getD t undef)
  old : ∀ t, (∀ j fl o, rs[j]? = some (fl, o) → L j = true → o.dst ≠ some t) → VR F w p (DLt rs fs s e L) (get e t) (a.tmps.getD t undef)
  row : ∀ id r, lkF L id 0 fs (look s.rows id) = some r → DLt rs fs s e L id ∧ ¬ F (p id).1 ∧ RowOK F w p (DLt rs fs s e L) r (p id).1 (p id).2
  apart : ∀ id id' r r', lkF L id 0 fs (look s.rows id) = some r → lkF L id' 0 fs (look s.rows id') = some r' → id ≠ id' → (p id).1 ≠ (p id').1
  rowB : ∀ id r, lkF L id 0 fs (look s.rows id) = some r → w0.heap.size ≤ (p id).1 ∨ RowAt p0 s (p id).1
  tgD : ∀ j f t r, fs[j]? = some f → L j = true → f.ov = some (t, r) → DLt rs fs s e L t

def addL (L : Nat → Bool) (i : Nat) : Nat → Bool := fun j => decide (j = i) || L j

theorem Mid.go {rs : List (Bool × RP)} {fs : List Fact} {e : Env} {s : Store} {F0 : Nat → Prop} {w0 : World} {p0 : Place} {ds : List Deferred} {L : Nat → Bool} {F : Nat → Prop} {p : Place} {a : Act} {w : World}
    (m : Mid N rs fs e s F0 w0 p0 ds L F p a w) {i : Nat} {fl : Bool} {r : RP} {f : Fact} {F' : Nat → Prop} {w' : World} {p' : Place} {u : Value} (hi : rs[i]? = some (fl, r)) (hf : fs[i]? = some f) (hun : L i = false)
    (hdist : ∀ j fl' o t, rs[j]? = some (fl', o) → o.dst = some t → r.dst = some t → j = i) (hd : ∀ d, r.dst = some d → d < N)
    (hV : ∀ (v0 : AV) (u0 : Value), VR F w p (DLt rs fs s e L) v0 u0 → VR F' w' p' (DLt rs fs s e (addL L i)) v0 u0) (hval : VR F' w' p' (DLt rs fs s e (addL L i)) f.v u)
    (h1 : w'.os = w.os) (h2 : w'.tape = w.tape) (h3 : w'.output = w.output) (h4 : w.heap.size ≤ w'.heap.size)
    (h5 : ∀ b, b < w.heap.size → ¬ (∃ id r, lkF L id 0 fs (look s.rows id) = some r ∧ (p id).1 = b) → w'.heap[b]? = w.heap[b]?)
    (h6 : ∀ (b : Nat) (c : Array Value) (t : TypeId) (fz : Nat × Nat), w.heap[b]? = some (Obj.cells c t fz) → ∃ (c' : Array Value) (t' : TypeId) (fz' : Nat × Nat), w'.heap[b]? = some (Obj.cells c' t' fz') ∧ c'.size = c.size)
    (h7 : ∀ b, F b → F' b) (h8 : ∀ b, F' b → F b ∨ (w.heap.size ≤ b ∧ b < w'.heap.size)) (h9 : ∀ i, i < s.nx → p' i = p i)
    (hrow : ∀ id r, lkF (addL L i) id 0 fs (look s.rows id) = some r → DLt rs fs s e (addL L i) id ∧ ¬ F' (p' id).1 ∧ RowOK F' w' p' (DLt rs fs s e (addL L i)) r (p' id).1 (p' id).2)
    (hap : ∀ id id' r r', lkF (addL L i) id 0 fs (look s.rows id) = some r → lkF (addL L i) id' 0 fs (look s.rows id') = some r' → id ≠ id' → (p' id).1 ≠ (p' id').1)
    (hrB : ∀ id r, lkF (addL L i) id 0 fs (look s.rows id) = some r → w.heap.size ≤ (p' id).1 ∨ ∃ id0 r0, lkF L id0 0 fs (look s.rows id0) = some r0 ∧ (p id0).1 = (p' id).1)
    (htg : ∀ t r, f.ov = some (t, r) → DLt rs fs s e (addL L i) t) :
    Mid N rs fs e s F0 w0 p0 ds (addL L i) F' p' (a.put r.dst u) w' := by
  have hL : ∀ j, addL L i j = true → j = i ∨ L j = true := fun j h => by simpa [addL] using h
  have hput : ∀ t, (a.put r.dst u).tmps.getD t undef = if r.dst = some t then u else a.tmps.getD t undef := fun t => getD_put' a r.dst u t (fun d hdd => by rw [m.size]; exact hd d hdd)
  refine ⟨h1.trans m.os, h2.trans m.tape, h3.trans m.output, Nat.le_trans m.wsize h4, ?_, ?_, fun b hb => h7 b (m.inF b hb), ?_, fun x hx => (h9 x hx).trans (m.keep x hx), ?_, ?_, ?_, ?_, ?_, hrow, hap, ?_, ?_⟩
  · intro b hb hn
    refine (h5 b (Nat.lt_of_lt_of_le hb m.wsize) ?_).trans (m.same b hb hn)
    rintro ⟨id, r, hl, rfl⟩
    rcases m.rowB id r hl with h | h
    · omega
    · exact hn h
  · intro b c t fz hb
    obtain ⟨c', t', fz', g1, g2⟩ := m.cells b c t fz hb
    obtain ⟨c'', t'', fz'', g3, g4⟩ := h6 b c' t' fz' g1
    exact ⟨c'', t'', fz'', g3, g4.trans g2⟩
  · intro b hb
    rcases h8 b hb with h | h
    · exact (m.newF b h).imp id fun h => ⟨h.1, Nat.lt_of_lt_of_le h.2 h4⟩
    · exact .inr ⟨Nat.le_trans m.wsize h.1, h.2⟩
  · cases r.dst <;> exact m.defs
  · cases hdd : r.dst <;> simp [Act.put, m.size]
  · refine m.oldF.to (fun b hb => (h8 b hb).elim (fun h => Nat.lt_of_lt_of_le (m.oldF b h) h4) (fun h => h.2)) h7 (fun b hb => h5 b (m.oldF b hb) ?_) h6
    rintro ⟨id, r, hl, rfl⟩
    exact (m.row id r hl).2.1 hb
  · intro j fl' o f' t ho hf' hl hdt
    rw [hput]
    rcases hL j hl with rfl | hl'
    · rw [hi] at ho; cases ho
      rw [hf] at hf'; cases hf'
      rw [if_pos hdt]
      exact hval
    · rw [if_neg]
      · exact hV _ _ (m.new j fl' o f' t ho hf' hl' hdt)
      · intro hr
        have := hdist j fl' o t ho hdt hr
        subst this
        rw [hun] at hl'; cases hl'
  · intro t ht
    rw [hput]
    have hne : r.dst ≠ some t := ht i fl r hi (by simp [addL])
    rw [if_neg hne]
    exact hV _ _ (m.old t fun j fl' o ho hl => ht j fl' o ho (by simp [addL, hl]))
  · intro id r hl
    rcases hrB id r hl with h | ⟨id0, r0, g1, g2⟩
    · exact .inl (Nat.le_trans m.wsize h)
    · rw [← g2]; exact m.rowB id0 r0 g1
  · intro j f' t r' hf' hl hov
    rcases hL j hl with rfl | hl'
    · rw [hf] at hf'; cases hf'; exact htg t r' hov
    · rcases m.tgD j f' t r' hf' hl' hov with h | ⟨j', g1, g2, g3⟩
      · exact .inl h
      · exact .inr ⟨j', g1, by simp [addL, g2], g3⟩

/-- An operation that makes rows. -/
theorem Mid.pure {rs : List (Bool × RP)} {fs : List Fact} {e : Env} {s : Store} {F0 : Nat → Prop} {w0 : World} {p0 : Place} {ds : List Deferred} {L : Nat → Bool} {F : Nat → Prop} {p : Place} {a : Act} {w : World} (kn : Known P rs fs s e)
    (m : Mid N rs fs e s F0 w0 p0 ds L F p a w) {i : Nat} {fl : Bool} {r : RP} {f : Fact} {F' : Nat → Prop} {w' : World} {p1 : Place} {u : Value} {mm : Nat} (hi : rs[i]? = some (fl, r)) (hf : fs[i]? = some f) (hun : L i = false)
    (hdist : ∀ j fl' o t, rs[j]? = some (fl', o) → o.dst = some t → r.dst = some t → j = i) (hd : ∀ d, r.dst = some d → d < N) (hov : f.ov = none) (hmm : mm ≤ f.m)
    (h : PRm F w p (DLt rs fs s e L) (bs rs fs s e i).k mm F' w' u f.new f.v p1) : Mid N rs fs e s F0 w0 p0 ds (addL L i) F' p1 (a.put r.dst u) w' := by
  have hil : i < rs.length := (List.getElem?_eq_some_iff.1 hi).1
  have hk1 : (bs rs fs s e (i + 1)).k = (bs rs fs s e i).k + f.m := by rw [Known.succ hi hf, nextSt_k]
  have hfresh : ∀ x, DLt rs fs s e L x → ¬ ((bs rs fs s e i).k ≤ x ∧ x < (bs rs fs s e i).k + mm) := by
    rintro x (hx | ⟨j, hj, hLj, hj1, hj2⟩) ⟨h1, h2⟩
    · have := kn.base (j := i) (by omega); omega
    · rcases Nat.lt_trichotomy j i with h9 | h9 | h9
      · have := kn.mono (i := j + 1) (j := i) (by omega) (by omega); omega
      · subst h9; rw [hun] at hLj; cases hLj
      · have := kn.mono (i := i + 1) (j := j) (by omega) (by omega); omega
  have hp : ∀ x, DLt rs fs s e L x → p1 x = p x := fun x hx => h.keep x (hfresh x hx)
  have hD1 : ∀ x, DLt rs fs s e L x → DLt rs fs s e (addL L i) x := by
    rintro x (h | ⟨j, h1, h2, h3⟩)
    · exact .inl h
    · exact .inr ⟨j, h1, by simp [addL, h2], h3⟩
  have hD : ∀ x, (DLt rs fs s e L x ∨ ((bs rs fs s e i).k ≤ x ∧ x < (bs rs fs s e i).k + mm)) → DLt rs fs s e (addL L i) x := by
    rintro x (h | h)
    · exact hD1 x h
    · exact .inr ⟨i, hil, by simp [addL], h.1, by omega⟩
  have hV : ∀ (v0 : AV) (u0 : Value), VR F w p (DLt rs fs s e L) v0 u0 → VR F' w' p1 (DLt rs fs s e (addL L i)) v0 u0 := fun v0 u0 h0 =>
    h0.mono h.inF (fun b hb => h.grow.same b (m.oldF b hb)) (fun b c t fz hb => ⟨c, t, fz, h.grow.cells hb, rfl⟩) hp hD1
  -- which rows there are
  have hnew : ∀ id, (∃ q, look f.new id = some q) → lkF (addL L i) id 0 fs (look s.rows id) = look f.new id := by
    rintro id ⟨q, hq⟩
    rw [hq]
    obtain ⟨a1, _⟩ := h.nrow id q hq
    refine lkF_hit i f hf (by simp [touch, hov, hq]) (by simp [addL]) fun i' f' hf' hlt ht => ?_
    simp only [Nat.zero_add]
    cases hL : addL L i i' with
    | false => rfl
    | true =>
      exfalso
      have hL' : L i' = true := by
        have := hL; simp only [addL, Bool.or_eq_true, decide_eq_true_eq] at this
        exact this.resolve_left (by omega)
      rcases kn.touch hf' ht with ⟨r', g1, g2⟩ | ⟨_, g1, g2⟩
      · exact hfresh id (m.tgD i' f' id r' hf' hL' g1) a1
      · have := kn.mono (i := i + 1) (j := i') (by omega) (by have := (List.getElem?_eq_some_iff.1 hf').1; rw [kn.len] at this; omega)
        omega
  have hold : ∀ id, look f.new id = none → lkF (addL L i) id 0 fs (look s.rows id) = lkF L id 0 fs (look s.rows id) := by
    intro id hq
    refine lkF_agree fun j f' hf' ht => ?_
    simp only [Nat.zero_add, addL]
    have : j ≠ i := by rintro rfl; rw [hf] at hf'; cases hf'; simp [touch, hov, hq] at ht
    simp [this]
  have hcase : ∀ id q, lkF (addL L i) id 0 fs (look s.rows id) = some q → look f.new id = some q ∨ (look f.new id = none ∧ lkF L id 0 fs (look s.rows id) = some q) := by
    intro id q hq
    cases hn : look f.new id with
    | some q' => left; rw [hnew id ⟨q', hn⟩, hn] at hq; exact hq
    | none => right; rw [hold id hn] at hq; exact ⟨rfl, hq⟩
  have ltb : ∀ {q : Row} {b o : Nat}, RowOK F w p (DLt rs fs s e L) q b o → b < w.heap.size := fun h => let ⟨⟨_, _, _, hb, _⟩, _⟩ := h; lt_of_heap hb
  have notF : ∀ b, b < w.heap.size → ¬ F b → ¬ F' b := fun b hb hF hF' => (h.newF b hF').elim hF (fun h => by omega)
  refine m.go hi hf hun hdist hd hV (vr_D h.val hD) h.grow.os h.grow.tape h.grow.output h.grow.size (fun b hb _ => h.grow.same b hb) (fun b c t fz hb => ⟨c, t, fz, h.grow.cells hb, rfl⟩) h.inF h.newF (fun x hx => hp x (.inl hx)) ?_ ?_ ?_ (fun t r' hov' => by rw [hov] at hov'; cases hov')
  · intro id q hq
    rcases hcase id q hq with hq | ⟨_, hq⟩
    · obtain ⟨a1, a2, a3, a4, a5⟩ := h.nrow _ _ hq
      exact ⟨hD _ (.inr a1), a4, a5.toD hD⟩
    · obtain ⟨g1, g2, ⟨c, t, fz, hb, hfz, hr, hv⟩, hz⟩ := m.row id q hq
      rw [hp id g1]
      exact ⟨hD1 id g1, notF _ (lt_of_heap hb) g2, ⟨c, t, fz, h.grow.cells hb, hfz, hr, fun i x j v hx hj => hV _ _ (hv i x j v hx hj)⟩, hz⟩
  · intro id id' q q' hq hq' hne
    rcases hcase id q hq with hq | ⟨_, hq⟩ <;> rcases hcase id' q' hq' with hq' | ⟨_, hq'⟩
    · exact h.apart _ _ _ _ hq hq' hne
    · obtain ⟨g1, g2, g3⟩ := m.row id' q' hq'
      have h9 := ltb g3
      have := (h.nrow _ _ hq).2.1
      rw [hp id' g1]; exact fun e => by omega
    · obtain ⟨g1, g2, g3⟩ := m.row id q hq
      have h9 := ltb g3
      have := (h.nrow _ _ hq').2.1
      rw [hp id g1]; exact fun e => by omega
    · rw [hp id (m.row id q hq).1, hp id' (m.row id' q' hq').1]
      exact m.apart id id' q q' hq hq' hne
  · intro id q hq
    rcases hcase id q hq with hq | ⟨_, hq⟩
    · exact .inl (h.nrow _ _ hq).2.1
    · exact .inr ⟨id, q, hq, by rw [hp id (m.row id q hq).1]⟩

/-- A store. -/
theorem Mid.store {rs : List (Bool × RP)} {fs : List Fact} {e : Env} {s : Store} {F0 : Nat → Prop} {w0 : World} {p0 : Place} {ds : List Deferred} {L : Nat → Bool} {F : Nat → Prop} {p : Place} {a : Act} {w : World} (kn : Known P rs fs s e)
    (m : Mid N rs fs e s F0 w0 p0 ds L F p a w) {i : Nat} {fl : Bool} {r : RP} {f : Fact} {w' : World} {u : Value} {id : Nat} {q q' : Row} (hi : rs[i]? = some (fl, r)) (hf : fs[i]? = some f) (hun : L i = false)
    (hdist : ∀ j fl' o t, rs[j]? = some (fl', o) → o.dst = some t → r.dst = some t → j = i) (hd : ∀ d, r.dst = some d → d < N) (hov : f.ov = some (id, q')) (hfv : f.v = .any) (hm : f.m = 1) (hid : id < (bs rs fs s e i).k)
    (hq : lkF L id 0 fs (look s.rows id) = some q) (hlater : ∀ j f' r', fs[j]? = some f' → i < j → f'.ov = some (id, r') → L j = false)
    (h : Eff F w p (DLt rs fs s e L) [(id, q)] (bs rs fs s e i).k w' u [(id, q')] .any) : ∃ p1, Mid N rs fs e s F0 w0 p0 ds (addL L i) F p1 (a.put r.dst u) w' := by
  have hil : i < rs.length := (List.getElem?_eq_some_iff.1 hi).1
  have hk1 : (bs rs fs s e (i + 1)).k = (bs rs fs s e i).k + 1 := by rw [Known.succ hi hf, nextSt_k, hm]
  obtain ⟨p1, hp, hs1, hv1, _⟩ := h.st
  have hD1 : ∀ x, DLt rs fs s e L x → DLt rs fs s e (addL L i) x := by
    rintro x (h | ⟨j, h1, h2, h3⟩)
    · exact .inl h
    · exact .inr ⟨j, h1, by simp [addL, h2], h3⟩
  have hD : ∀ x, (DLt rs fs s e L x ∨ x = (bs rs fs s e i).k) → DLt rs fs s e (addL L i) x := by
    rintro x (h | h)
    · exact hD1 x h
    · exact .inr ⟨i, hil, by simp [addL], by omega, by omega⟩
  obtain ⟨r1, r2, r3⟩ := m.row id q hq
  have h0 : SRel F w p (DLt rs fs s e L) [(id, q)] := by
    refine ⟨fun id1 q1 hl => ?_, fun id1 id2 q1 q2 hl hl' hne => ?_, m.oldF⟩
    · rw [look_cons] at hl
      split at hl
      · rename_i h9; subst h9; cases hl; exact ⟨r1, r2, r3⟩
      · simp [look] at hl
    · rw [look_cons] at hl hl'
      split at hl <;> split at hl' <;> first | omega | simp [look] at hl hl'
  have hV : ∀ (v0 : AV) (u0 : Value), VR F w p (DLt rs fs s e L) v0 u0 → VR F w' p1 (DLt rs fs s e (addL L i)) v0 u0 := fun v0 u0 hv0 => h.env h0 hp hD1 hv0
  have hother : ∀ b, b < w.heap.size → b ≠ (p id).1 → w'.heap[b]? = w.heap[b]? := by
    intro b hb hne
    refine h.same b hb ?_
    rintro ⟨id1, q1, hl, rfl⟩
    rw [look_cons] at hl
    split at hl
    · rename_i h9; subst h9; exact hne rfl
    · simp [look] at hl
  have hself : lkF (addL L i) id 0 fs (look s.rows id) = some q' := by
    refine lkF_hit i f hf (by simp [touch, hov]) (by simp [addL]) fun j f' hf' hlt ht => ?_
    simp only [Nat.zero_add]
    rcases kn.touch hf' ht with ⟨r', g1, _⟩ | ⟨_, g1, g2⟩
    · have := hlater j f' r' hf' hlt g1
      simp [addL, this]; omega
    · have := kn.mono (i := i) (j := j) (by omega) (by have := (List.getElem?_eq_some_iff.1 hf').1; rw [kn.len] at this; omega)
      omega
  have hrest : ∀ id1, id1 ≠ id → lkF (addL L i) id1 0 fs (look s.rows id1) = lkF L id1 0 fs (look s.rows id1) := by
    intro id1 hne
    refine lkF_agree fun j f' hf' ht => ?_
    simp only [Nat.zero_add, addL]
    have : j ≠ i := by
      rintro rfl; rw [hf] at hf'; cases hf'
      simp [touch, hov, beq_false_of_ne (Ne.symm hne)] at ht
    simp [this]
  have hrow1 := hs1.row id q' (by simp [look_cons])
  refine ⟨p1, m.go hi hf hun hdist hd hV (by rw [hfv]; exact .any u) h.os h.tape h.output h.size ?_ h.cells (fun _ h => h) (fun _ h => .inl h) (fun x hx => hp x (.inl hx)) ?_ ?_ ?_ ?_⟩
  · intro b hb hn
    exact hother b hb fun e => hn ⟨id, q, hq, e.symm⟩
  · intro id1 q1 hq1
    by_cases h9 : id1 = id
    · subst h9
      rw [hself] at hq1; cases hq1
      exact ⟨hD _ hrow1.1, hrow1.2.1, hrow1.2.2.toD hD⟩
    · rw [hrest id1 h9] at hq1
      obtain ⟨g1, g2, ⟨c, t, fz, hb, hfz, hr, hv⟩, hz⟩ := m.row id1 q1 hq1
      rw [hp id1 g1]
      have hne := m.apart id1 id q1 q hq1 hq h9
      exact ⟨hD1 id1 g1, g2, ⟨c, t, fz, (hother _ (lt_of_heap hb) hne).trans hb, hfz, hr, fun i x j v hx hj => hV _ _ (hv i x j v hx hj)⟩, hz⟩
  · intro id1 id2 q1 q2 hq1 hq2 hne
    have toL : ∀ id1 q1, lkF (addL L i) id1 0 fs (look s.rows id1) = some q1 → ∃ q0, lkF L id1 0 fs (look s.rows id1) = some q0 := by
      intro id1 q1 hq1
      by_cases h9 : id1 = id
      · subst h9; exact ⟨q, hq⟩
      · rw [hrest id1 h9] at hq1; exact ⟨q1, hq1⟩
    obtain ⟨a1, ha1⟩ := toL id1 q1 hq1
    obtain ⟨a2, ha2⟩ := toL id2 q2 hq2
    rw [hp id1 (m.row _ _ ha1).1, hp id2 (m.row _ _ ha2).1]
    exact m.apart id1 id2 a1 a2 ha1 ha2 hne
  · intro id1 q1 hq1
    right
    by_cases h9 : id1 = id
    · subst h9; exact ⟨id1, q, hq, by rw [hp _ r1]⟩
    · rw [hrest id1 h9] at hq1; exact ⟨id1, q1, hq1, by rw [hp _ (m.row _ _ hq1).1]⟩
  · intro t r' hov'
    rw [hov] at hov'; cases hov'
    exact hD1 _ r1
end

section
variable {P : Program} {N n0 : Nat} {ops : Array Oper}

theorem look_low (nx : Nat) : ∀ (rows : Rows) (id : Nat) (r : Row), look (low nx rows) id = some r → id < nx ∧ look rows id = some r
  | [], id, r, h => by simp [low, look] at h
  | (k, q) :: l, id, r, h => by
    simp only [low] at h
    by_cases hk : k < nx
    · simp only [hk, decide_true, cond_true, look_cons] at h ⊢
      split at h
      · rename_i h1; subst h1; rw [if_pos rfl]; exact ⟨hk, h⟩
      · rename_i h1; rw [if_neg h1]; exact look_low nx l id r h
    · simp only [hk, decide_false, cond_false] at h
      obtain ⟨h1, h2⟩ := look_low nx l id r h
      rw [look_cons, if_neg (by omega)]
      exact ⟨h1, h2⟩
theorem look_oneR (rows : Rows) (i id : Nat) (r : Row) (h : look (oneR rows i) id = some r) : id = i ∧ look rows id = some r := by
  unfold oneR at h
  split at h
  · rename_i q hq
    rw [look_cons] at h
    split at h
    · rename_i h1; subst h1; cases h; exact ⟨rfl, hq⟩
    · simp [look] at h
  · simp [look] at h

/-- The rows that an operation sees are there. -/
theorem Mid.vis {rs : List (Bool × RP)} {fs : List Fact} {e : Env} {s : Store} {F0 : Nat → Prop} {w0 : World} {p0 : Place} {ds : List Deferred} {L : Nat → Bool} {F : Nat → Prop} {p : Place} {a : Act} {w : World} (kn : Known P rs fs s e)
    (m : Mid N rs fs e s F0 w0 p0 ds L F p a w) {i : Nat} {fl : Bool} {r : RP} {f : Fact} {op : ROp} (hi : rs[i]? = some (fl, r)) (hf : fs[i]? = some f) (hov : f.ov = none) (hop : r.op = op)
    (hst : ∀ j f t q, fs[j]? = some f → f.ov = some (t, q) → j ≠ i → fl = false → L j = decide (j < i)) :
    SRel F w p (DLt rs fs s e L) (Ai.vis s.rows s.nx (bs rs fs s e i).cur (bs rs fs s e i).tg (bs rs fs s e i).e fl op) := by
  have hilt : i < rs.length := (List.getElem?_eq_some_iff.1 hi).1
  have key : ∀ id q, look (Ai.vis s.rows s.nx (bs rs fs s e i).cur (bs rs fs s e i).tg (bs rs fs s e i).e fl op) id = some q → lkF L id 0 fs (look s.rows id) = some q := by
    intro id q hq
    unfold Ai.vis at hq
    cases fl with
    | false =>
      obtain ⟨h1, h2⟩ := look_low _ _ _ _ hq
      rw [kn.pre (by omega)] at h2
      rw [← h2]
      refine lkF_agree fun j f' hf' ht => ?_
      simp only [Nat.zero_add]
      rcases kn.touch hf' ht with ⟨r', g1, _⟩ | ⟨_, g1, g2⟩
      · refine hst j f' id r' hf' g1 ?_ rfl
        rintro rfl; rw [hf] at hf'; cases hf'; rw [hov] at g1; cases g1
      · have := kn.base (j := j) (by have := (List.getElem?_eq_some_iff.1 hf').1; rw [kn.len] at this; omega)
        omega
    | true =>
      simp only at hq
      split at hq
      · rename_i id1 hid1
        cases hc : (decide (id1 < s.nx) && !(bs rs fs s e i).tg.contains id1) with
        | false => rw [hc] at hq; simp [look] at hq
        | true =>
          rw [hc] at hq
          simp only [cond_true] at hq
          simp only [Bool.and_eq_true, decide_eq_true_eq, Bool.not_eq_true'] at hc
          obtain ⟨rfl, h2⟩ := look_oneR _ _ _ _ hq
          rw [← h2]
          refine lkF_none fun j f' hf' ht => ?_
          simp only [Nat.zero_add]
          exfalso
          have hjl : j < rs.length := by have := (List.getElem?_eq_some_iff.1 hf').1; rw [kn.len] at this; omega
          rcases kn.touch hf' ht with ⟨r', g1, _⟩ | ⟨_, g1, g2⟩
          · have hji : j ≠ i := by rintro rfl; rw [hf] at hf'; cases hf'; rw [hov] at g1; cases g1
            rcases Nat.lt_or_ge j i with h9 | h9
            · have := kn.tgs hf' g1 h9 (by omega)
              have h3 := hc.2
              rw [List.contains_eq_mem] at h3
              simp [this] at h3
            · obtain ⟨fl', o', ho', hok'⟩ := kn.at hf'
              obtain ⟨_, _, _, _, _, _, _, _, _, _, h3, _⟩ := factOK_st hok' g1
              have h4 : id ∈ (bs rs fs s e (i + 1)).fr := by
                rw [Known.succ hi hf]
                unfold nextSt
                rw [hov]
                simp only [Ai.frs, hop, hid1]
                exact List.mem_cons_self
              have h5 := kn.frs (j := j) h4 (by omega) (by omega)
              rw [List.contains_eq_mem] at h3
              simp [h5] at h3
          · have := kn.base (j := j) (by omega)
            omega
      · simp [look] at hq
  exact ⟨fun id q hq => m.row id q (key id q hq), fun id id' q q' hq hq' hne => m.apart id id' q q' (key id q hq) (key id' q' hq') hne, m.oldF⟩

theorem Mid.step {rs : List (Bool × RP)} {fs : List Fact} {e : Env} {s : Store} {F0 : Nat → Prop} {w0 : World} {p0 : Place} {ds : List Deferred} {L : Nat → Bool} {F : Nat → Prop} {p : Place} {a : Act} {w : World} {K : Act → World → Prop} {Q : Exit → Act → World → Prop} (kn : Known P rs fs s e)
    (m : Mid N rs fs e s F0 w0 p0 ds L F p a w) {i : Nat} {fl : Bool} {o : Oper} {r : RP} (ho : ops[i]? = some o) (hi : rs[i]? = some (fl, r)) (hlo : lite2 P N ops o = some r)
    (hun : L i = false) (hdist : ∀ j fl' o t, rs[j]? = some (fl', o) → o.dst = some t → r.dst = some t → j = i)
    (hwait : ∀ j fl' o' t, rs[j]? = some (fl', o') → o'.dst = some t → readsT ops o t = true → j < i ∧ L j = true)
    (hst : ∀ j f t q, fs[j]? = some f → f.ov = some (t, q) → j ≠ i → (fl = false ∨ isSt r.op = true) → L j = decide (j < i))
    (hK : ∀ F' p' a' w', Mid N rs fs e s F0 w0 p0 ds (addL L i) F' p' a' w' → K a' w') : wpOpIn (WI none) 0 P ops Q i K a w := by
  obtain ⟨l1, l2, l3, l4⟩ := lite2_spec hlo
  obtain ⟨f, hf, hok⟩ := kn.fact hi
  have hilt : i < rs.length := (List.getElem?_eq_some_iff.1 hi).1
  have hk : f.m ≠ 0 → ¬ DLt rs fs s e L (bs rs fs s e i).k := by
    rintro hm0 (h | ⟨j, hj, hLj, hj1, hj2⟩)
    · have := kn.base (j := i) (by omega); omega
    · have hk1 : (bs rs fs s e (i + 1)).k = (bs rs fs s e i).k + f.m := by rw [Known.succ hi hf, nextSt_k]
      rcases Nat.lt_trichotomy j i with h9 | h9 | h9
      · have := kn.mono (i := j + 1) (j := i) (by omega) (by omega); omega
      · subst h9; rw [hun] at hLj; cases hLj
      · have := kn.mono (i := i + 1) (j := j) (by omega) (by omega); omega
  have hval : ∀ t, readsT ops o t = true → VR F w p (DLt rs fs s e L) (get (bs rs fs s e i).e t) (a.tmps.getD t undef) := by
    intro t ht
    rcases get_lastSt (rs.take i) (fs.take i) ⟨s.nx, s.rows, [], [], e⟩ t (by simp [kn.len]) with ⟨h1, h2⟩ | ⟨j, fl', o', f', h1, h2, h3, h4⟩
    · show VR F w p _ (get (lastSt (rs.take i) (fs.take i) ⟨s.nx, s.rows, [], [], e⟩).e t) _
      rw [h1]
      refine m.old t fun j fl' o' ho' hl hdt => ?_
      obtain ⟨h5, _⟩ := hwait j fl' o' t ho' hdt ht
      exact h2 j fl' o' (by rw [List.getElem?_take, if_pos h5]; exact ho') hdt
    · show VR F w p _ (get (lastSt (rs.take i) (fs.take i) ⟨s.nx, s.rows, [], [], e⟩).e t) _
      rw [h4]
      have hji : j < i := by
        have := (List.getElem?_eq_some_iff.1 h1).1
        rw [List.length_take] at this; omega
      rw [List.getElem?_take, if_pos hji] at h1 h2
      exact m.new j fl' o' f' t h1 h2 (hwait j fl' o' t h1 h3 ht).2 h3
  have hop : ∀ x ∈ o.op.operands, ∀ y, opd x = some y → VR F w p (DLt rs fs s e L) (ev (bs rs fs s e i).e y) (a.eval x) := by
    intro x hx y hy
    refine vr_opd' m.oldF (fun t ht => hval t ?_) hy
    subst ht
    simp only [readsT, Bool.or_eq_true]
    left
    exact Array.any_eq_true'.2 ⟨_, hx, by simp⟩
  have hgd : ∀ t b, r.guard = some (t, b) → VR F w p (DLt rs fs s e L) (get (bs rs fs s e i).e t) (a.tmps.getD t undef) := by
    intro t b hg
    refine hval t ?_
    cases hog : o.guard with
    | none => rw [hog, hg] at l2; simp [liteG] at l2
    | some x =>
      obtain ⟨j, b'⟩ := x
      rw [hog, hg] at l2
      simp only [liteG, Option.map_eq_some_iff, Option.some.injEq, Prod.mk.injEq] at l2
      obtain ⟨t', h1, rfl, rfl⟩ := l2
      simp [readsT, hog, h1]
  have hwant := wanted_of' hgd l2
  have hd : ∀ d, r.dst = some d → d < N := fun d hd => l4 d (by rw [← l3]; exact hd)
  have hnext : ∀ {u : Value} {w' : World} {F' : Nat → Prop} {p1 : Place} {mm : Nat}, f.ov = none → mm ≤ f.m → PRm F w p (DLt rs fs s e L) (bs rs fs s e i).k mm F' w' u f.new f.v p1 → K (a.put o.dst u) w' := by
    intro u w' F' p1 mm hov hmm h
    rw [← l3]
    exact hK _ _ _ _ (m.pure kn hi hf hun hdist hd hov hmm h)
  unfold wpOpIn
  simp only [ho]
  have pureCase : ∀ op, r.op = op → r.guard = none → f.ov = none → achR P r.im op (bs rs fs s e i).e (Ai.vis s.rows s.nx (bs rs fs s e i).cur (bs rs fs s e i).tg (bs rs fs s e i).e fl op) (bs rs fs s e i).k f.m f.new f.v →
      if Region.wanted o (yielded ops a.tmps) then o.wpIn (WI none) 0 P a w K Q else (∀ g, o.about P w a.eval = some g → (WI none).fn g) ∧ K (a.put o.dst undef) w := by
    intro op hopp hg hov hok
    rw [if_pos (hwant.1 hg)]
    have hs := m.vis kn hi hf hov hopp (fun j f t q h1 h2 h3 h4 => hst j f t q h1 h2 h3 (.inl h4))
    refine (ach_sound hs hk (hopp ▸ l1) (fun _ => rfl) hop hok).wpIn (lite1_nodefer l1) ?_
    rintro u w' ⟨F', p1, h⟩
    exact hnext hov (Nat.le_refl _) h
  unfold factOK at hok
  cases hg : r.guard with
  | none =>
    rw [hg] at hok
    cases hopp : r.op with
    | st sz ax xx =>
      rw [hopp] at hok
      obtain ⟨h1, h2, h3, h4, h5, rfl⟩ := hok
      obtain ⟨id, q, q0, ii, off, ha, hl, hr, hR⟩ := rowAt_some h3
      rw [if_pos (hwant.1 hg)]
      rw [hopp] at l1
      have hE : liteE P o.op = some (.st sz ax xx) := by
        rcases lite1_cases l1 with h9 | ⟨_, h9⟩
        · exact h9
        · cases h9
      obtain ⟨t, oa, ox, hoo⟩ := liteE_kind hE
      rw [hoo] at hE hop
      simp only [liteE, Option.bind_eq_some_iff, Option.some.injEq, ROp.st.injEq] at hE
      obtain ⟨n, hz, a', haa, x', hxx, rfl, rfl, rfl⟩ := hE
      have va := (hop oa (by simp [Op.operands]) a' haa).sv h1
      have vx := (hop ox (by simp [Op.operands]) x' hxx).sv h2
      have hid : id < (bs rs fs s e i).k := by rw [ha] at h4; exact h4
      have hD : DLt rs fs s e L id := by
        have va2 := va
        rw [ha] at va2
        generalize a.eval oa = u at va2
        cases va2 with
        | pt _ _ _ _ hid => exact hid
      have hL : lkF L id 0 fs (look s.rows id) = some q := by
        have hl2 := hl
        rw [kn.pre (by omega)] at hl2
        rw [← hl2]
        refine lkF_agree fun j f' hf' ht => ?_
        simp only [Nat.zero_add]
        rcases kn.touch hf' ht with ⟨r', g1, _⟩ | ⟨_, g1, g2⟩
        · by_cases hji : j = i
          · subst hji; simp [hun]
          · exact hst j f' id r' hf' g1 hji (.inr (by rw [hopp]; rfl))
        · have hjl : j < rs.length := by have := (List.getElem?_eq_some_iff.1 hf').1; rw [kn.len] at this; omega
          have hji : j < i := by
            rcases Nat.lt_or_ge j i with h9 | h9
            · exact h9
            · have := kn.mono (i := i) (j := j) h9 (by omega); omega
          rw [decide_eq_true hji]
          rcases hD with hD | ⟨j', k1, k2, k3, k4⟩
          · have := kn.base (j := j) (by omega); omega
          · rcases Nat.lt_trichotomy j' j with h9 | h9 | h9
            · have := kn.mono (i := j' + 1) (j := j) (by omega) (by omega); omega
            · subst h9; exact k2
            · have := kn.mono (i := j + 1) (j := j') (by omega) (by omega); omega
      have hs1 : SRel F w p (DLt rs fs s e L) [(id, q)] := by
        refine ⟨fun id1 q1 hq1 => ?_, fun id1 id2 q1 q2 hl hl' hne => ?_, m.oldF⟩
        · rw [look_cons] at hq1
          split at hq1
          · rename_i h9
            rw [h9]
            have : q = q1 := by injection hq1
            rw [← this]; exact m.row _ _ hL
          · simp [look] at hq1
        · rw [look_cons] at hl hl'
          split at hl <;> split at hl' <;> first | omega | simp [look] at hl hl'
      have h3' : stC [(id, q)] n (sv (bs rs fs s e i).e a') (sv (bs rs fs s e i).e x') := by
        obtain ⟨k1, k2⟩ := h3
        refine ⟨?_, k2⟩
        rw [ha] at k1 ⊢
        simp only at k1 ⊢
        rw [hl] at k1
        rw [look_cons, if_pos rfl]
        exact k1
      obtain ⟨w', g1, g2⟩ := st_sound (k := (bs rs fs s e i).k) hs1 hz va vx h3'
      have hR1 : stR [(id, q)] (sv (bs rs fs s e i).e a') (sv (bs rs fs s e i).e x') = [(id, ⟨q.sz, q.es.set ii (splice (q.es.getD ii []) off (sv (bs rs fs s e i).e x').cells)⟩)] := by
        rw [ha]; simp [stR, look, over]
      rw [hR1] at g2
      refine Does.wpIn (R := fun u w' => Eff F w p (DLt rs fs s e L) [(id, q)] (bs rs fs s e i).k w' u [(id, ⟨q.sz, q.es.set ii (splice (q.es.getD ii []) off (sv (bs rs fs s e i).e x').cells)⟩)] .any) (lite1_nodefer l1) (.skip w' (by simp [execOp, hoo, g1]) g2) ?_
      intro u w'' hE
      rw [← l3]
      obtain ⟨p1, hm⟩ := m.store kn hi hf hun hdist hd hr rfl rfl hid hL (fun j f' r' h6 h7 h8 => by
        have := hst j f' id r' h6 h8 (by omega) (.inr (by rw [hopp]; rfl))
        rw [this]; simp; omega) hE
      exact hK _ _ _ _ hm
    | _ => rw [hopp] at hok; exact pureCase _ hopp hg hok.1 hok.2
  | some gb =>
    obtain ⟨g, b⟩ := gb
    rw [hg] at hok
    obtain ⟨hns, t, v, mm, hmm, ht, rfl, h1⟩ := hok
    have hw := hwant.2 g b t hg ht
    cases t with
    | true =>
      rw [if_pos hw]
      have hs := m.vis kn hi hf rfl rfl (fun j f t q h1 h2 h3 h4 => hst j f t q h1 h2 h3 (.inl h4))
      refine (ach_sound hs (fun _ => hk (by simp)) l1 (fun _ => rfl) hop (h1 rfl)).wpIn (lite1_nodefer l1) ?_
      rintro u w' ⟨F', p1, h⟩
      refine hnext (F' := F') (p1 := p1) (mm := mm) rfl hmm ?_
      exact { h with val := .opt true v u (fun _ => h.val) (fun h => by cases h) }
    | false =>
      rw [if_neg (by rw [hw]; simp)]
      refine ⟨fun _ _ => trivial, hnext (F' := F) (p1 := p) (mm := 0) rfl (Nat.zero_le _) ?_⟩
      exact ⟨.refl w, fun _ h => h, fun _ h => .inl h, fun _ _ => rfl, fun id r hl => by simp [look] at hl, fun id id' r r' hl => by simp [look] at hl, .opt false v undef (fun h => by cases h) (fun _ => rfl)⟩

theorem Mid.done {rs : List (Bool × RP)} {fs : List Fact} {e : Env} {s : Store} {F0 : Nat → Prop} {w0 : World} {p0 : Place} {ds : List Deferred} {L : Nat → Bool} {F : Nat → Prop} {p : Place} {a : Act} {w : World} (kn : Known P rs fs s e)
    (hn : n0 ≤ s.nx) (m : Mid N rs fs e s F0 w0 p0 ds L F p a w) (hl : ∀ j, j < rs.length → L j = true) :
    Rel N F w p (bs rs fs s e rs.length).e ⟨(bs rs fs s e rs.length).k, (bs rs fs s e rs.length).cur⟩ a ∧ Evo n0 F0 w0 p0 s F w p ⟨(bs rs fs s e rs.length).k, (bs rs fs s e rs.length).cur⟩ := by
  have hDL : ∀ x, DLt rs fs s e L x → x < (bs rs fs s e rs.length).k := by
    rintro x (h | ⟨j, h1, _, _, h3⟩)
    · have := kn.base (j := rs.length) (Nat.le_refl _); omega
    · have := kn.mono (i := j + 1) (j := rs.length) (by omega) (Nat.le_refl _); omega
  have hlk : ∀ id, look (bs rs fs s e rs.length).cur id = lkF L id 0 fs (look s.rows id) := by
    intro id
    rw [kn.pre (Nat.le_refl _)]
    refine lkF_agree fun j f hf ht => ?_
    have : j < rs.length := by have := (List.getElem?_eq_some_iff.1 hf).1; rw [kn.len] at this; exact this
    simp only [Nat.zero_add, hl j this, decide_eq_true this]
  have rowOK : ∀ {r : Row} {b o : Nat}, RowOK F w p (DLt rs fs s e L) r b o → RowOK F w p (fun i => i < (bs rs fs s e rs.length).k) r b o := fun h => h.toD hDL
  refine ⟨⟨⟨m.size, fun t => ?_⟩, ⟨fun id r h => ?_, fun id id' r r' h h' hne => ?_, m.oldF⟩⟩, ?_⟩
  · rcases get_lastSt rs fs ⟨s.nx, s.rows, [], [], e⟩ t kn.len with ⟨h1, h2⟩ | ⟨j, fl, o, f, h1, h2, h3, h4⟩
    · have : get (bs rs fs s e rs.length).e t = get e t := by unfold bs; rw [stF_all kn.len, h1]
      rw [this]; exact vr_D (m.old t fun j fl o ho _ => h2 j fl o ho) hDL
    · have : get (bs rs fs s e rs.length).e t = f.v := by unfold bs; rw [stF_all kn.len, h4]
      rw [this]; exact vr_D (m.new j fl o f t h1 h2 (hl j (List.getElem?_eq_some_iff.1 h1).1) h3) hDL
  · simp only [hlk] at h
    obtain ⟨g1, g2, g3⟩ := m.row id r h
    exact ⟨hDL _ g1, g2, rowOK g3⟩
  · simp only [hlk] at h h'
    exact m.apart id id' r r' h h' hne
  · refine ⟨m.os, m.tape, m.output, m.wsize, m.same, m.cells, m.inF, fun b hb => (m.newF b hb).imp id (fun h => .inl h.1), ?_, fun id hid => m.keep id (Nat.lt_of_lt_of_le hid hn), Nat.le_trans hn (kn.base (Nat.le_refl _))⟩
    rintro b ⟨id, r, h, rfl⟩
    simp only [hlk] at h
    exact m.rowB id r h

theorem awp_draw {Q : AX → Env → Store → Prop} {id : Nat} {e : Env} {s : Store} {rs0 rs2 : List RP} (hm : P.follows .mixedOrders = true) (n : Nat) (hB : drawOK ops n = true)
    (h1 : mapO (lite2 P N ops) (ops.toList.take n) = some rs0) (h2 : mapO (lite2 P N ops) (ops.toList.drop n) = some rs2)
    (h : dR P s.rows s.nx (((List.range n).map (flB ops n)).zip rs0) s.nx s.rows [] [] (fun e s => seqR P rs2 (fun e s => Q .normal e s) (fun v e s => Q (.pan v) e s) e s) e) : awp P N n0 none (.region id ops true) Q e s := by
  intro F w p a hn hr
  refine wpIn_region_any hm ?_
  obtain ⟨fs, hfs, hall, hK⟩ := dR_facts h
  simp only [drawOK, Bool.and_eq_true, Bool.or_eq_true, decide_eq_true_eq] at hB
  obtain ⟨⟨⟨hpre, hnle⟩, htail⟩, hseq⟩ := hB
  have hrl0 : rs0.length = n := by rw [(mapO_some h1).1]; simp; omega
  let rs := ((List.range n).map (flB ops n)).zip rs0
  have hrl : rs.length = n := by simp [rs, hrl0]
  have kn : Known P rs fs s e := ⟨hfs, hall⟩
  have hrs : ∀ (i : Nat) (o : Oper), i < n → ops[i]? = some o → ∃ r, rs[i]? = some (flB ops n i, r) ∧ lite2 P N ops o = some r := by
    intro i o hi ho
    obtain ⟨y, g1, g2⟩ := (mapO_some h1).2 i o (by rw [List.getElem?_take, if_pos hi]; simpa using ho)
    exact ⟨y, by simp [rs, List.getElem?_zip_eq_some, g2, List.getElem?_range hi], g1⟩
  have hops : ∀ (i : Nat) (fl : Bool) (r : RP), rs[i]? = some (fl, r) → ∃ o, ops[i]? = some o ∧ lite2 P N ops o = some r ∧ fl = flB ops n i := by
    intro i fl r hi
    have hil : i < n := by rw [← hrl]; exact (List.getElem?_eq_some_iff.1 hi).1
    have ho : ops[i]? = some (ops[i]'(by omega)) := by simp
    obtain ⟨r', g1, g2⟩ := hrs i _ hil ho
    rw [hi] at g1; cases g1
    exact ⟨_, ho, g2, rfl⟩
  have pair : ∀ i j, i < n → j < n → pairOK ops n i j = true := fun i j hi hj => by
    have := List.all_eq_true.1 hpre i (List.mem_range.2 hi)
    simp only [Bool.and_eq_true] at this
    exact List.all_eq_true.1 this.2 j (List.mem_range.2 hj)
  have back : ∀ i, i < n → backOK ops i = true := fun i hi => by
    have := List.all_eq_true.1 hpre i (List.mem_range.2 hi)
    simp only [Bool.and_eq_true] at this
    exact this.1.1
  have stores : ∀ i, i < n → (ops[i]?).any isStO = true → flB ops n i = false := fun i hi hs => by
    have := List.all_eq_true.1 hpre i (List.mem_range.2 hi)
    simp only [Bool.and_eq_true, Bool.or_eq_true, Bool.not_eq_true'] at this
    rcases this.1.2 with h | h
    · rw [hs] at h; cases h
    · exact h
  have isS : ∀ (j : Nat) (f : Fact) (t : Nat) (q : Row), fs[j]? = some f → f.ov = some (t, q) → j < n ∧ (ops[j]?).any isStO = true := by
    intro j f t q hf hov
    obtain ⟨fl, o, ho, hok⟩ := kn.at hf
    obtain ⟨o', g1, g2, _⟩ := hops j fl o ho
    obtain ⟨sz, ax, xx, _, _, hop, _⟩ := factOK_st hok hov
    obtain ⟨l1, _, _, _⟩ := lite2_spec g2
    rw [hop] at l1
    have hE : liteE P o'.op = some (.st sz ax xx) := by
      rcases lite1_cases l1 with h9 | ⟨_, h9⟩
      · exact h9
      · cases h9
    obtain ⟨t', oa, ox, hoo⟩ := liteE_kind hE
    exact ⟨by rw [← hrl]; exact (List.getElem?_eq_some_iff.1 ho).1, by simp [g1, isStO, hoo]⟩
  let w1 : World := { w with drawn := w.drawn + 1 }
  have hg1 : Grow w w1 := ⟨rfl, rfl, rfl, Nat.le_refl _, fun _ _ => rfl⟩
  have hev1 : Evo n0 F w p s F w1 p s :=
    ⟨rfl, rfl, rfl, Nat.le_refl _, fun _ _ _ => rfl, fun b c t fz hb => ⟨c, t, fz, hb, rfl⟩, fun _ h => h, fun _ h => .inl h, fun _ h => .inr h, fun _ _ => rfl, hn⟩
  have main : ∀ (c : Nat) (listed : Array Bool) (F' : Nat → Prop) (p' : Place) (a' : Act) (w' : World), cnt listed n = c → HeadInv .any ops n listed → Mid N rs fs e s F w1 p a.defers (fun j => listed.getD j false) F' p' a' w' →
      wpAnyIn (WI none) 0 P .any ops (Post P N n0 Q F w p s a.defers) (c + (ops.size - n)) listed a' w' := by
    intro c
    induction c with
    | zero =>
      intro listed F' p' a' w' hc inv m
      have hl := cnt_zero hc
      obtain ⟨g1, g2⟩ := m.done kn hn (fun j hj => hl j (by omega))
      have hlist : listed = Array.ofFn (n := ops.size) fun i => decide (i.val < n) := by
        apply Array.ext
        · rw [inv.size, Array.size_ofFn]
        · intro i hi1 hi2
          rw [Array.getElem_ofFn]
          by_cases hin : i < n
          · have := hl i hin
            simp only [Array.getD_eq_getD_getElem?, Array.getElem?_eq_getElem hi1, Option.getD_some] at this
            rw [this]; simp [hin]
          · have := inv.tail i (by omega) (by rw [← inv.size]; exact hi1)
            simp only [Array.getD_eq_getD_getElem?, Array.getElem?_eq_getElem hi1, Option.getD_some] at this
            rw [this]; simp [hin]
      have hdl : (ops.toList.drop n).length = ops.size - n := by simp
      rw [Nat.zero_add, ← hdl]
      refine wpAnyIn_of_seq (ops.toList.drop n) n listed a' w' (fun j => by simp [List.getElem?_drop]) (by rw [hdl, hlist]; exact hseq) ?_
      refine seq_sound _ rs2 F' w' p' _ _ a' h2 g1 (hev1.trans g2) m.defs ?_
      have hb : bs rs fs s e rs.length = lastSt rs fs ⟨s.nx, s.rows, [], [], e⟩ := stF_all kn.len
      rw [hb]
      exact hK
    | succ c ih =>
      intro listed F' p' a' w' hc inv m
      obtain ⟨i0, hi0, hu0, hbef⟩ := cnt_pos (listed := listed) (n := n) (by omega)
      rw [show c + 1 + (ops.size - n) = (c + (ops.size - n)) + 1 by omega]
      refine ⟨fun hnil => ?_, fun i hi => ?_⟩
      · exfalso
        have hb := back i0 hi0
        unfold backOK at hb
        split at hb
        · rename_i o ho
          have : i0 ∈ Region.ready .any ops listed := by
            refine mem_ready.2 ⟨getD_in (by rw [inv.size]; omega) hu0, o, ho, fun ed hed hbind => ?_⟩
            have := Array.all_eq_true'.1 hb ed hed
            simp only [Bool.or_eq_true, Bool.not_eq_true', decide_eq_true_eq] at this
            rcases this with h9 | h9
            · rw [hbind] at h9; cases h9
            · exact hbef _ h9
          rw [hnil] at this; cases this
        · cases hb
      · obtain ⟨hun, o, ho, hedges⟩ := mem_ready.1 hi
        have hisz : i < ops.size := (Array.getElem?_eq_some_iff.1 ho).1
        have hin : i < n := by
          rcases Nat.lt_or_ge i n with h | h
          · exact h
          · rcases htail with h9 | ⟨hsink, hchain⟩
            · omega
            · exact absurd hi (tail_waits hsink hchain (by omega) inv _ i0 rfl hi0 (getD_in (by rw [inv.size]; omega) hu0) i h)
        obtain ⟨r, hr1, hr2⟩ := hrs i o hin ho
        have l3 := (lite2_spec hr2).2.2.1
        refine m.step kn ho hr1 hr2 (getD_both hun) ?_ ?_ ?_ ?_
        · intro j fl' o' t hj hdt hdr
          obtain ⟨oj, hoj, hlj, _⟩ := hops j fl' o' hj
          have hjn : j < n := by rw [← hrl]; exact (List.getElem?_eq_some_iff.1 hj).1
          have hp := pair i j hin hjn
          have l3' := (lite2_spec hlj).2.2.1
          unfold pairOK at hp
          rw [ho, hoj] at hp
          simp only [← l3', hdt, ← l3, hdr, bne_self_eq_false, Bool.or_false, Bool.and_eq_true, beq_iff_eq] at hp
          exact hp.1.symm
        · intro j fl' o' t hj hdt hrd
          obtain ⟨oj, hoj, hlj, _⟩ := hops j fl' o' hj
          have hjn : j < n := by rw [← hrl]; exact (List.getElem?_eq_some_iff.1 hj).1
          have hp := pair i j hin hjn
          have l3' := (lite2_spec hlj).2.2.1
          unfold pairOK at hp
          rw [ho, hoj] at hp
          simp only [← l3', hdt, hrd, Bool.not_true, Bool.false_or, Bool.and_eq_true, decide_eq_true_eq] at hp
          obtain ⟨o'', ho'', ed, hed, hbind, hon⟩ := Region.waitsFor_spec hp.2.2
          rw [ho] at ho''; cases ho''
          refine ⟨hp.2.1, ?_⟩
          rw [← hon]; exact hedges ed hed hbind
        · intro j f t q hf hov hji hfl
          obtain ⟨hjn, hjs⟩ := isS j f t q hf hov
          have hno : flB ops n i = false := by
            rcases hfl with h | h
            · exact h
            · refine stores i hin ?_
              obtain ⟨l1, _, _, _⟩ := lite2_spec hr2
              cases hop : r.op with
              | st sz ax xx =>
                rw [hop] at l1
                have hE : liteE P o.op = some (.st sz ax xx) := by
                  rcases lite1_cases l1 with h9 | ⟨_, h9⟩
                  · exact h9
                  · cases h9
                obtain ⟨t', oa, ox, hoo⟩ := liteE_kind hE
                simp [ho, isStO, hoo]
              | _ => rw [hop] at h; cases h
          have hord : ordB ops i j = true := by
            have := hno
            unfold flB at this
            rw [List.any_eq_false] at this
            have := this j (List.mem_range.2 hjn)
            simp only [Bool.and_eq_true, bne_iff_ne, ne_eq, Bool.not_eq_true', not_and, Bool.not_eq_false] at this
            exact this ⟨hji, hjs⟩
          simp only [ordB, Bool.or_eq_true, Bool.and_eq_true, decide_eq_true_eq] at hord
          rcases hord with ⟨h9, hw⟩ | ⟨h9, hw⟩
          · rw [decide_eq_false (by omega)]
            cases hLj : listed.getD j false with
            | false => rfl
            | true =>
              exfalso
              obtain ⟨oj, hoj, ed, hed, hbind, hon⟩ := Region.waitsFor_spec hw
              have := inv.closed j oj hoj hLj ed hed hbind
              rw [hon, getD_both hun] at this; cases this
          · rw [decide_eq_true h9]
            obtain ⟨oi, hoi, ed, hed, hbind, hon⟩ := Region.waitsFor_spec hw
            rw [ho] at hoi; cases hoi
            rw [← hon]; exact hedges ed hed hbind
        · intro F'' p'' a'' w'' hm'
          have heq : addL (fun j => listed.getD j false) i = fun j => (listed.setIfInBounds i true).getD j false := by
            funext j
            by_cases hji : j = i
            · subst hji; simp [addL, inv.size, hisz]
            · rw [getD_set_ne false (Ne.symm hji)]; simp [addL, hji]
          rw [heq] at hm'
          exact ih _ F'' p'' a'' w'' (by have := cnt_set (listed := listed) (n := n) (by rw [inv.size]; exact hisz) (getD_both hun) hin; omega) (inv.set hi hin) hm'
  have hc0 : ∀ k, cnt (Array.replicate ops.size false) k = k := by
    intro k
    induction k with
    | zero => rfl
    | succ k ih => simp only [cnt, ih, getD_replicate_false]; simp
  have inv0 : HeadInv .any ops n (Array.replicate ops.size false) :=
    ⟨by simp, fun j oj _ hl => (by rw [getD_replicate_false] at hl; cases hl), fun t _ ht => getD_in (by simpa using ht) (getD_replicate_false _ _)⟩
  have hmid : Mid N rs fs e s F w1 p a.defers (fun j => (Array.replicate ops.size false).getD j false) F p a w1 := by
    have no : ∀ {j : Nat}, ¬ (Array.replicate ops.size false).getD j false = true := fun h => by rw [getD_replicate_false] at h; cases h
    have toD : ∀ i, i < s.nx → DLt rs fs s e (fun j => (Array.replicate ops.size false).getD j false) i := fun i h => .inl h
    have hlk : ∀ id, lkF (fun j => (Array.replicate ops.size false).getD j false) id 0 fs (look s.rows id) = look s.rows id := fun id => lkF_none fun i f _ _ => by simp only [getD_replicate_false]
    have hs1 : SRel F w1 p (DLt rs fs s e (fun j => (Array.replicate ops.size false).getD j false)) s.rows := hr.sto.grow hg1 (fun _ _ => rfl) toD
    refine ⟨rfl, rfl, rfl, Nat.le_refl _, fun _ _ _ => rfl, fun b c t fz hb => ⟨c, t, fz, hb, rfl⟩, fun _ h => h, fun _ h => .inl h, fun _ _ => rfl, rfl, hr.env.size, hs1.old, fun j fl o f t _ _ h => absurd h no, fun t _ => ?_, ?_, ?_, ?_, fun j f t r _ h => absurd h no⟩
    · exact (hr.env.val t).grow hg1 hr.sto.old (fun _ _ => rfl) toD
    · intro id r h; rw [hlk] at h; exact hs1.row id r h
    · intro id id' r r' h h'; rw [hlk] at h h'; exact hs1.apart id id' r r' h h'
    · intro id r h; rw [hlk] at h; exact .inr ⟨id, r, h, rfl⟩
  have := main n _ F p a w1 (hc0 n) inv0 hmid
  have hsize : ops.size = n + (ops.size - n) := by omega
  rw [← hsize] at this
  exact this
end
end Go.Proofs.YtggmkfagcjdifaaDoor.Ai
