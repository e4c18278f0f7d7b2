/-
  Regions that draw the order of their operations. Plain facts, no condition.
-/
import Derived.Test.YtcgodcpgdnfjpaaAiO
import Derived.StillTail
namespace Go.Proofs.Ytcgodcpgdnfjpaa.Ai
set_option linter.unusedSimpArgs false
set_option linter.unusedVariables false
set_option linter.unusedVariables false

def opD (P : Program) (im : Bool) (op : ROp) (e : Env) (rows : Rows) (k : Nat) (K : AV → Option Row → Prop) : Prop :=
  match op with
  | .st _ _ _ | .app _ _ _ _ _ => False
  | .cal f xs => ∃ v, calC P e f xs v ∧ K v none
  | .cav f xs => lv e f ∧ allLv e xs ∧ match sv e f with
    | .fn (.func g) a b => ∃ v, ((∀ x ∈ a ++ xs.map (sv e) ++ b, Cl x) ∧ PCall P g (a ++ xs.map (sv e) ++ b) v) ∧ K v none
    | _ => False
  | .bslice sz n z ps => (z.length = sz ∧ n * sz ≤ 2 ^ 24 ∧ elemsC e sz n ps) ∧ (match im with
    | true => 0 < n ∧ K (.ros sz (elemsV e (List.replicate n z) ps)) none
    | false => K (.sl k sz 0 n (some n)) (some ⟨sz, elemsV e (List.replicate n z) ps⟩))
  | op => pcond e rows op ∧ K (pval e rows k op) (prow e rows op)

/-- The operations of the head read the rows as they were before the region. -/
def dR (P : Program) (rows : Rows) (k : Nat) : List RP → (Env → Store → Prop) → Rows → Env → Prop
  | [], K, acc, e => K e ⟨k, acc⟩
  | o :: l, K, acc, e =>
    match o.guard with
    | none => opD P o.im o.op e rows k fun v row => dR P rows (k + 1) l K (push acc k row) (put e o.dst v)
    | some (g, b) => match gv e g b with
      | some t => match norow o.im o.op with
        | true => opG P t o.op e ⟨k, rows⟩ fun v => dR P rows (k + 1) l K acc (put e o.dst (.opt t v))
        | false => False
      | none => False

abbrev Fact := Option Row × AV

def factOK (P : Program) (rows : Rows) (k : Nat) (o : RP) (e : Env) (f : Fact) : Prop :=
  match o.guard with
  | none => achR P o.im o.op e rows k f.1 f.2
  | some (g, b) => ∃ t v, gv e g b = some t ∧ f = (none, .opt t v) ∧ (t = true → achR P o.im o.op e rows k none v)

def envF (e : Env) : List RP → List Fact → Env
  | o :: l, f :: fs => envF (put e o.dst f.2) l fs
  | _, _ => e
def accF (k : Nat) (acc : Rows) : List Fact → Rows
  | f :: fs => accF (k + 1) (push acc k f.1) fs
  | [] => acc
def allOK (P : Program) (rows : Rows) (k : Nat) (e : Env) : List RP → List Fact → Prop
  | o :: l, f :: fs => factOK P rows k o e f ∧ allOK P rows (k + 1) (put e o.dst f.2) l fs
  | [], [] => True
  | _, _ => False

theorem opD_cases {P : Program} {im : Bool} {op : ROp} {e : Env} {rows : Rows} {k : Nat} {K : AV → Option Row → Prop} (h : opD P im op e rows k K) : ∃ row v, achR P im op e rows k row v ∧ K v row := by
  cases op <;> try exact ⟨_, _, ⟨h.1, rfl, rfl⟩, h.2⟩
  case bslice sz n z ps =>
    obtain ⟨h1, h2⟩ := h
    cases im with
    | true => exact ⟨none, _, ⟨h1, .inr ⟨rfl, h2.1, rfl, rfl⟩⟩, h2.2⟩
    | false => exact ⟨_, _, ⟨h1, .inl ⟨rfl, rfl, rfl⟩⟩, h2⟩
  case st => exact h.elim
  case app => exact h.elim
  case cal f xs =>
    obtain ⟨v, h1, h2⟩ := h
    exact ⟨none, v, ⟨rfl, h1⟩, h2⟩
  case cav f xs =>
    obtain ⟨h0, h1, h2⟩ := h
    split at h2
    · rename_i g a b hg
      obtain ⟨v, h3, h4⟩ := h2
      exact ⟨none, v, ⟨rfl, h0, h1, g, a, b, hg, h3⟩, h4⟩
    · exact h2.elim

theorem dR_facts {P : Program} {rows : Rows} : ∀ {k : Nat} {l : List RP} {K : Env → Store → Prop} {acc : Rows} {e : Env}, dR P rows k l K acc e →
    ∃ fs : List Fact, fs.length = l.length ∧ allOK P rows k e l fs ∧ K (envF e l fs) ⟨k + l.length, accF k acc fs⟩
  | k, [], K, acc, e, h => ⟨[], rfl, trivial, h⟩
  | k, o :: l, K, acc, e, h => by
    simp only [dR] at h
    have cons : ∀ {row : Option Row} {v : AV}, factOK P rows k o e (row, v) → dR P rows (k + 1) l K (push acc k row) (put e o.dst v) →
        ∃ fs : List Fact, fs.length = (o :: l).length ∧ allOK P rows k e (o :: l) fs ∧ K (envF e (o :: l) fs) ⟨k + (o :: l).length, accF k acc fs⟩ := by
      intro row v h1 h2
      obtain ⟨fs, g1, g2, g3⟩ := dR_facts h2
      refine ⟨(row, v) :: fs, by simp [g1], ⟨h1, g2⟩, ?_⟩
      have : k + (o :: l).length = k + 1 + l.length := by simp; omega
      rw [this]
      exact g3
    split at h
    · rename_i hg
      obtain ⟨row, v, h1, h2⟩ := opD_cases h
      exact cons (by unfold factOK; rw [hg]; exact h1) h2
    · rename_i g b hg
      split at h
      · rename_i t ht
        split at h
        · rename_i hno
          obtain ⟨v, h1, h2⟩ := opG_cases h hno
          exact cons (row := none) (v := .opt t v) (by unfold factOK; rw [hg]; exact ⟨t, v, ht, rfl, h1⟩) h2
        · exact h.elim
      · exact h.elim

theorem allOK_get {P : Program} {rows : Rows} : ∀ {l : List RP} {fs : List Fact} {k : Nat} {e : Env}, allOK P rows k e l fs → ∀ (i : Nat) (o : RP), l[i]? = some o →
    ∃ f, fs[i]? = some f ∧ factOK P rows (k + i) o (envF e (l.take i) (fs.take i)) f
  | [], [], k, e, h, i, o, ho => by simp at ho
  | x :: l, f :: fs, k, e, h, i, o, ho => by
    cases i with
    | zero => simp at ho; subst ho; exact ⟨f, rfl, h.1⟩
    | succ i =>
      obtain ⟨f', h1, h2⟩ := allOK_get h.2 i o (by simpa using ho)
      refine ⟨f', by simpa using h1, ?_⟩
      simp only [List.take_succ_cons, envF]
      rwa [show k + (i + 1) = k + 1 + i by omega]
  | [], _ :: _, k, e, h, _, _, _ => h.elim
  | _ :: _, [], k, e, h, _, _, _ => h.elim

/-- What a temporary holds behind a list of operations. -/
theorem get_envF : ∀ (l : List RP) (fs : List Fact) (e : Env) (t : Nat), fs.length = l.length →
    (get (envF e l fs) t = get e t ∧ ∀ (j : Nat) (o : RP), l[j]? = some o → o.dst ≠ some t) ∨ ∃ (j : Nat) (o : RP) (f : Fact), l[j]? = some o ∧ fs[j]? = some f ∧ o.dst = some t ∧ get (envF e l fs) t = f.2
  | [], [], e, t, _ => .inl ⟨rfl, by simp⟩
  | o :: l, f :: fs, e, t, h => by
    simp only [envF]
    rcases get_envF l fs (put e o.dst f.2) t (by simpa using h) with ⟨h1, h2⟩ | ⟨j, o', f', h1, h2, h3, h4⟩
    · rw [get_put] at h1
      by_cases hd : o.dst = some t
      · rw [if_pos hd] at h1
        exact .inr ⟨0, o, f, rfl, rfl, hd, h1⟩
      · rw [if_neg hd] at h1
        refine .inl ⟨h1, fun j o' hj => ?_⟩
        cases j with
        | zero => simp at hj; subst hj; exact hd
        | succ j => exact h2 j o' (by simpa using hj)
    · exact .inr ⟨j + 1, o', f', by simpa using h1, by simpa using h2, h3, h4⟩

theorem look_push (acc : Rows) (k : Nat) (row : Option Row) (id : Nat) : look (push acc k row) id = if id = k then (match row with | some r => some r | none => look acc id) else look acc id := by
  cases row with
  | none => simp [push]
  | some r => simp [push, look_cons]

theorem look_accF : ∀ (fs : List Fact) (k : Nat) (acc : Rows) (id : Nat) (r : Row), look (accF k acc fs) id = some r → (∃ j f, fs[j]? = some f ∧ f.1 = some r ∧ id = k + j) ∨ look acc id = some r
  | [], k, acc, id, r, h => .inr h
  | f :: fs, k, acc, id, r, h => by
    simp only [accF] at h
    rcases look_accF fs (k + 1) _ id r h with ⟨j, f', h1, h2, h3⟩ | h1
    · exact .inl ⟨j + 1, f', by simpa using h1, h2, by omega⟩
    · rw [look_push] at h1
      split at h1
      · rename_i hid
        cases hf : f.1 with
        | none => rw [hf] at h1; exact .inr h1
        | some r' => rw [hf] at h1; cases h1; exact .inl ⟨0, f, rfl, hf, by omega⟩
      · exact .inr h1

/-- The static side of a region that draws: 'n': so many operations may come in any order. -/
def readsT (ops : Array Oper) (o : Oper) (t : Nat) : Bool :=
  o.op.operands.any (fun | .tmp u => u == t | _ => false) || (match o.guard with | some (j, _) => ((ops[j]?).bind (·.dst)) == some t | none => false)
def pairOK (ops : Array Oper) (n i j : Nat) : Bool :=
  match ops[i]?, ops[j]? with
  | some oi, some oj => match oj.dst with
    | some t => (i == j || oi.dst != some t) && (!readsT ops oi t || (decide (j < i) && Region.waitsFor .any ops i j))
    | none => true
  | _, _ => false
def backOK (ops : Array Oper) (i : Nat) : Bool :=
  match ops[i]? with
  | some o => o.after.all fun e => !Region.binds .any e || decide (e.on < i)
  | none => false
def drawOK (ops : Array Oper) (n : Nat) : Bool :=
  ((List.range n).all fun i => backOK ops i && (List.range n).all fun j => pairOK ops n i j) && decide (n ≤ ops.size) && (decide (n = ops.size) || (Region.sinkB .any ops n && Region.chainB .any ops n)) &&
  Region.seqB .any ops (ops.size - n) n (Array.ofFn (n := ops.size) fun i => decide (i.val < n))

theorem seqB_cons {md : Region.Mode} {ops : Array Oper} {g k : Nat} {listed : Array Bool} : Region.seqB md ops (g + 1) k listed = (decide (Region.ready md ops listed = [k]) && Region.seqB md ops g (k + 1) (listed.setIfInBounds k true)) := rfl

theorem wpAnyIn_of_seq {Fe : Fence} {n : Nat} {P : Program} {md : Region.Mode} {ops : Array Oper} {Q' : Exit → Act → World → Prop} : ∀ (l : List Oper) (k : Nat) (listed : Array Bool) (a : Act) (w : World), (∀ j, l[j]? = ops[k + j]?) →
    Region.seqB md ops l.length k listed = true → wpListIn Fe n P ops Q' l a w → wpAnyIn Fe n P md ops Q' l.length listed a w
  | [], _, _, _, _, _, hB, h => ⟨by simpa [Region.seqB] using hB, h⟩
  | o :: l, k, listed, a, w, hl, hB, h => by
    have h0 : ops[k]? = some o := by simpa using (hl 0).symm
    simp only [List.length_cons, Region.seqB, Bool.and_eq_true, decide_eq_true_eq] at hB
    refine ⟨fun h1 => (by rw [hB.1] at h1; cases h1), fun i hi => ?_⟩
    rw [hB.1] at hi
    have hik : i = k := by simpa using hi
    subst hik
    have hw : wpOpIn Fe n P ops Q' i (wpListIn Fe n P ops Q' l) a w := by unfold wpOpIn; simp only [h0]; exact h
    exact wpOpIn_mono (fun a' w' h' => wpAnyIn_of_seq l (i + 1) _ a' w' (fun j => by have := hl (j + 1); simpa [Nat.add_assoc, Nat.add_comm 1 j] using this) hB.2 h') hw

def cnt (listed : Array Bool) : Nat → Nat
  | 0 => 0
  | n + 1 => cnt listed n + (if listed.getD n false = true then 0 else 1)

theorem cnt_zero {listed : Array Bool} : ∀ {n : Nat}, cnt listed n = 0 → ∀ i, i < n → listed.getD i false = true
  | n + 1, h, i, hi => by
    simp only [cnt] at h
    by_cases hc : listed.getD n false = true
    · rw [if_pos hc] at h
      rcases Nat.lt_or_ge i n with h1 | h1
      · exact cnt_zero (by omega) i h1
      · rw [show i = n by omega]; exact hc
    · rw [if_neg hc] at h; omega

theorem cnt_set_ge {listed : Array Bool} {i : Nat} : ∀ {n : Nat}, n ≤ i → cnt (listed.setIfInBounds i true) n = cnt listed n
  | 0, _ => rfl
  | n + 1, h => by simp only [cnt]; rw [cnt_set_ge (by omega), getD_set_ne false (by omega)]

theorem cnt_set {listed : Array Bool} {i : Nat} (hs : i < listed.size) (hu : listed.getD i false = false) : ∀ {n : Nat}, i < n → cnt (listed.setIfInBounds i true) n + 1 = cnt listed n
  | n + 1, h => by
    simp only [cnt]
    by_cases hin : i = n
    · subst hin
      rw [cnt_set_ge (Nat.le_refl _)]
      have : (listed.setIfInBounds i true).getD i false = true := by simp [hs]
      rw [if_pos this, if_neg (by rw [hu]; simp)]
    · rw [getD_set_ne false hin]
      have := cnt_set hs hu (n := n) (by omega)
      omega

theorem cnt_pos {listed : Array Bool} : ∀ {n : Nat}, 0 < cnt listed n → ∃ i, i < n ∧ listed.getD i false = false ∧ ∀ j, j < i → listed.getD j false = true
  | n + 1, h => by
    by_cases h0 : 0 < cnt listed n
    · obtain ⟨i, h1, h2⟩ := cnt_pos h0
      exact ⟨i, by omega, h2⟩
    · have hz : cnt listed n = 0 := by omega
      refine ⟨n, Nat.lt_succ_self n, ?_, cnt_zero hz⟩
      simp only [cnt, hz] at h
      cases hb : listed.getD n false with
      | false => rfl
      | true => rw [if_pos hb] at h; omega

section
variable {P : Program} {N n0 : Nat} {ops : Array Oper}

/-- The state in the midst of the head. -/
structure Mid (N : Nat) (rs : List RP) (fs : List Fact) (e : Env) (s : Store) (F0 : Nat → Prop) (w0 : World) (p0 : Place) (ds : List Deferred) (listed : Array Bool) (F : Nat → Prop) (p : Place) (a : Act) (w : World) : Prop where
  grow : Grow w0 w
  inF : ∀ b, F0 b → F b
  newF : ∀ b, F b → F0 b ∨ (w0.heap.size ≤ b ∧ b < w.heap.size)
  keep : ∀ i, i < s.nx → p i = p0 i
  defs : a.defers = ds
  size : a.tmps.size = N
  new : ∀ j o f t, rs[j]? = some o → fs[j]? = some f → listed.getD j false = true → o.dst = some t → VR F w p (fun i => i < s.nx ∨ ∃ j, j < rs.length ∧ listed.getD j false = true ∧ i = s.nx + j) f.2 (a.tmps.getD t undef)
  old : ∀ t, (∀ j o, rs[j]? = some o → listed.getD j false = true → o.dst ≠ some t) → VR F w p (fun i => i < s.nx ∨ ∃ j, j < rs.length ∧ listed.getD j false = true ∧ i = s.nx + j) (get e t) (a.tmps.getD t undef)
  sto : SRel F w p (fun i => i < s.nx ∨ ∃ j, j < rs.length ∧ listed.getD j false = true ∧ i = s.nx + j) s.rows
  row : ∀ j f r, j < rs.length → fs[j]? = some f → listed.getD j false = true → f.1 = some r → w0.heap.size ≤ (p (s.nx + j)).1 ∧ ¬ F (p (s.nx + j)).1 ∧
    RowOK F w p (fun i => i < s.nx ∨ ∃ j, j < rs.length ∧ listed.getD j false = true ∧ i = s.nx + j) r (p (s.nx + j)).1 (p (s.nx + j)).2
  apart : ∀ j j' f f' r r', j < rs.length → j' < rs.length → fs[j]? = some f → fs[j']? = some f' → listed.getD j false = true → listed.getD j' false = true → f.1 = some r → f'.1 = some r' → j ≠ j' → (p (s.nx + j)).1 ≠ (p (s.nx + j')).1

def DL (s : Store) (n : Nat) (listed : Array Bool) (i : Nat) : Prop := i < s.nx ∨ ∃ j, j < n ∧ listed.getD j false = true ∧ i = s.nx + j

theorem Mid.next {rs : List RP} {fs : List Fact} {e : Env} {s : Store} {F0 : Nat → Prop} {w0 : World} {p0 : Place} {ds : List Deferred} {listed : Array Bool} {F : Nat → Prop} {p : Place} {a : Act} {w : World}
    (m : Mid N rs fs e s F0 w0 p0 ds listed F p a w) {i : Nat} {r : RP} {f : Fact} {F' : Nat → Prop} {w' : World} {u : Value} (hi : rs[i]? = some r) (hf : fs[i]? = some f) (hun : listed.getD i false = false) (hsz : i < listed.size)
    (hdist : ∀ j o t, rs[j]? = some o → o.dst = some t → r.dst = some t → j = i) (hd : ∀ d, r.dst = some d → d < N)
    (h : PR F w p (DL s rs.length listed) (s.nx + i) F' w' u f.1 f.2) : Mid N rs fs e s F0 w0 p0 ds (listed.setIfInBounds i true) F' (upd p (s.nx + i) (w.heap.size, 0)) (a.put r.dst u) w' := by
  have hilt : i < rs.length := (List.getElem?_eq_some_iff.1 hi).1
  have hk : ¬ DL s rs.length listed (s.nx + i) := by
    rintro (h | ⟨j, _, h2, h3⟩)
    · omega
    · have : i = j := by omega
      subst this; rw [hun] at h2; cases h2
  have hpo : ∀ x, DL s rs.length listed x → upd p (s.nx + i) (w.heap.size, 0) x = p x := upd_of hk
  have hkk : (upd p (s.nx + i) (w.heap.size, 0)) (s.nx + i) = (w.heap.size, 0) := by simp [upd]
  have hset : (listed.setIfInBounds i true).getD i false = true := by simp [hsz]
  have hL : ∀ j, (listed.setIfInBounds i true).getD j false = true → j = i ∨ listed.getD j false = true := by
    intro j hj
    by_cases hij : i = j
    · exact .inl hij.symm
    · rw [getD_set_ne false hij] at hj; exact .inr hj
  have hD1 : ∀ x, DL s rs.length listed x → DL s rs.length (listed.setIfInBounds i true) x := by
    rintro x (h | ⟨j, h1, h2, h3⟩)
    · exact .inl h
    · exact .inr ⟨j, h1, getD_set_true h2, h3⟩
  have hD2 : DL s rs.length (listed.setIfInBounds i true) (s.nx + i) := .inr ⟨i, hilt, hset, rfl⟩
  have keep : ∀ (v0 : AV) (u0 : Value), VR F w p (DL s rs.length listed) v0 u0 → VR F' w' (upd p (s.nx + i) (w.heap.size, 0)) (DL s rs.length (listed.setIfInBounds i true)) v0 u0 := fun v0 u0 h0 =>
    h0.mono h.inF (fun b hb => h.grow.same b (m.sto.old b hb)) (fun b c t fz hb => ⟨c, t, fz, h.grow.cells hb, rfl⟩) hpo hD1
  have conv : ∀ {v : AV} {u : Value}, VR F' w' (upd p (s.nx + i) (w.heap.size, 0)) (fun x => DL s rs.length listed x ∨ x = s.nx + i) v u → VR F' w' (upd p (s.nx + i) (w.heap.size, 0)) (DL s rs.length (listed.setIfInBounds i true)) v u := fun h =>
    h.mono (fun _ h => h) (fun _ _ => rfl) (fun b c t fz hb => ⟨c, t, fz, hb, rfl⟩) (fun _ _ => rfl) (fun x hx => hx.elim (hD1 x) (fun e => e ▸ hD2))
  have notF : ∀ b, b < w.heap.size → ¬ F b → ¬ F' b := fun b hb hF hF' => (h.newF b hF').elim hF (fun h => by omega)
  have rowOK : ∀ {r : Row} {b o : Nat}, RowOK F w p (DL s rs.length listed) r b o → RowOK F' w' (upd p (s.nx + i) (w.heap.size, 0)) (DL s rs.length (listed.setIfInBounds i true)) r b o := by
    rintro r b o ⟨⟨c, t, fz, hb, hfz, hr, hv⟩, hz⟩
    exact ⟨⟨c, t, fz, h.grow.cells hb, hfz, hr, fun i x j v hx hj => keep _ _ (hv i x j v hx hj)⟩, hz⟩
  have ltb : ∀ {r : Row} {b o : Nat}, RowOK F w p (DL s rs.length listed) r b o → b < w.heap.size := fun h => let ⟨⟨_, _, _, hb, _⟩, _⟩ := h; lt_of_heap hb
  have hput : ∀ t, (a.put r.dst u).tmps.getD t undef = if r.dst = some t then u else a.tmps.getD t undef := fun t => getD_put' a r.dst u t (fun d hdd => by rw [m.size]; exact hd d hdd)
  have dj : ∀ j, j < rs.length → listed.getD j false = true → DL s rs.length listed (s.nx + j) := fun j h1 h2 => .inr ⟨j, h1, h2, rfl⟩
  refine ⟨m.grow.trans h.grow, fun b hb => h.inF b (m.inF b hb), ?_, ?_, ?_, ?_, ?_, ?_, ?_, ?_, ?_⟩
  · intro b hb
    rcases h.newF b hb with h1 | h1
    · exact (m.newF b h1).imp (fun h => h) fun h2 => ⟨h2.1, Nat.lt_of_lt_of_le h2.2 h.grow.size⟩
    · exact .inr ⟨Nat.le_trans m.grow.size h1.1, h1.2⟩
  · intro x hx
    rw [hpo x (.inl hx)]; exact m.keep x hx
  · cases r.dst <;> exact m.defs
  · cases hdd : r.dst <;> simp [Act.put, m.size]
  · intro j o f' t ho hf' hl hdt
    rw [hput]
    rcases hL j hl with rfl | hl'
    · rw [hi] at ho; cases ho
      rw [hf] at hf'; cases hf'
      rw [if_pos hdt]
      exact conv h.val
    · rw [if_neg]
      · exact keep _ _ (m.new j o f' t ho hf' hl' hdt)
      · intro hr
        have := hdist j o t ho hdt hr
        subst this
        rw [hun] at hl'; cases hl'
  · intro t ht
    rw [hput]
    have hne : r.dst ≠ some t := ht i r hi hset
    rw [if_neg hne]
    exact keep _ _ (m.old t fun j o ho hl => ht j o ho (getD_set_true hl))
  · refine ⟨fun id r' hl => ?_, fun id id' r1 r2 hl hl' hne => ?_, fun b hb => ?_⟩
    · obtain ⟨h1, h2, h3⟩ := m.sto.row id r' hl
      have h1' : DL s rs.length listed id := h1
      rw [hpo id h1']
      exact ⟨hD1 id h1', notF _ (ltb h3) h2, rowOK h3⟩
    · rw [hpo id (m.sto.row id r1 hl).1, hpo id' (m.sto.row id' r2 hl').1]
      exact m.sto.apart id id' r1 r2 hl hl' hne
    · rcases h.newF b hb with h1 | h1
      · exact Nat.lt_of_lt_of_le (m.sto.old b h1) h.grow.size
      · exact h1.2
  · intro j f' r' hj hf' hl hr'
    rcases hL j hl with rfl | hl'
    · rw [hf] at hf'; cases hf'
      obtain ⟨h1, ⟨⟨c, t, fz, hb, hfz, hr, hv⟩, hz⟩, h3⟩ := h.nrow r' hr'
      rw [hkk]
      exact ⟨m.grow.size, h1, ⟨c, t, fz, hb, hfz, hr, fun i x j v hx hj => conv (hv i x j v hx hj)⟩, hz⟩
    · obtain ⟨h1, h2, h3⟩ := m.row j f' r' hj hf' hl' hr'
      rw [hpo _ (dj j hj hl')]
      exact ⟨h1, notF _ (ltb h3) h2, rowOK h3⟩
  · intro j j' f1 f2 r1 r2 hj hj' hf1 hf2 hl hl' hr1 hr2 hne
    rcases hL j hl with rfl | hl1 <;> rcases hL j' hl' with rfl | hl2
    · exact absurd rfl hne
    · obtain ⟨h1, h2, h3⟩ := m.row j' f2 r2 hj' hf2 hl2 hr2
      have := ltb h3
      rw [hkk, hpo _ (dj j' hj' hl2)]; exact fun e => by simp only at e; omega
    · obtain ⟨h1, h2, h3⟩ := m.row j f1 r1 hj hf1 hl1 hr1
      have := ltb h3
      rw [hkk, hpo _ (dj j hj hl1)]; exact fun e => by simp only at e; omega
    · rw [hpo _ (dj j hj hl1), hpo _ (dj j' hj' hl2)]
      exact m.apart j j' f1 f2 r1 r2 hj hj' hf1 hf2 hl1 hl2 hr1 hr2 hne

theorem vr_opd' {F : Nat → Prop} {w : World} {p : Place} {D : Nat → Prop} {e : Env} {a : Act} {x : Operand} {y : Opd} (he : ∀ t, x = .tmp t → VR F w p D (get e t) (a.tmps.getD t undef)) (h : opd x = some y) : VR F w p D (ev e y) (a.eval x) := by
  cases x with
  | tmp t => simp only [opd, Option.some.injEq] at h; subst h; exact he t rfl
  | const v =>
    simp only [opd] at h
    cases hv : ofVal v with
    | none => rw [hv] at h; cases h
    | some z => rw [hv] at h; cases h; exact vr_ofVal hv
  | func f => simp only [opd, Option.some.injEq] at h; subst h; exact .fn _ _ _ _ _ rfl rfl (by simp) (by simp)
  | global g => cases h

/-- Whether an operation is wanted, from the guard's temporary alone. -/
theorem wanted_of' {F : Nat → Prop} {w : World} {p : Place} {D : Nat → Prop} {e : Env} {o : Oper} {a : Act} {g : Option (Nat × Bool)}
    (he : ∀ t b, g = some (t, b) → VR F w p D (get e t) (a.tmps.getD t undef)) (hg : liteG ops o.guard = some g) :
    (g = none → Region.wanted o (yielded ops a.tmps) = true) ∧ (∀ t b c, g = some (t, b) → gv e t b = some c → Region.wanted o (yielded ops a.tmps) = c) := by
  have key := fun (t : Nat) => wanted_of (N := a.tmps.size) (F := F) (w := w) (p := p) (D := D) (e := [(t, get e t)]) (ops := ops) (o := o) (a := a) (g := g)
  cases g with
  | none =>
    refine ⟨fun _ => ?_, fun t b c h => by cases h⟩
    exact (wanted_of (N := a.tmps.size) (F := F) (w := w) (p := p) (D := D) (e := []) (ops := ops) (o := o) (a := a) (g := none) ⟨rfl, fun t => .any _⟩ hg).1 rfl
  | some x =>
    obtain ⟨t, b⟩ := x
    refine ⟨fun h => (by cases h), fun t' b' c h hc => ?_⟩
    cases h
    refine (key t ⟨rfl, fun t' => ?_⟩ hg).2 t b c rfl ?_
    · simp only [get]
      by_cases htt : t = t'
      · subst htt; simp only [beq_self_eq_true, cond_true]; exact he t b rfl
      · simp only [beq_false_of_ne htt, cond_false]; exact .any _
    · simpa [gv, get] using hc

theorem Mid.step {rs : List RP} {fs : List Fact} {e : Env} {s : Store} {F0 : Nat → Prop} {w0 : World} {p0 : Place} {ds : List Deferred} {listed : Array Bool} {F : Nat → Prop} {p : Place} {a : Act} {w : World} {K : Act → World → Prop} {Q : Exit → Act → World → Prop}
    (m : Mid N rs fs e s F0 w0 p0 ds listed F p a w) {i : Nat} {o : Oper} {r : RP} (ho : ops[i]? = some o) (hi : rs[i]? = some r) (hlo : lite2 P N ops o = some r) (hfs : fs.length = rs.length) (hall : allOK P s.rows s.nx e rs fs)
    (hun : listed.getD i false = false) (hsz : i < listed.size) (hdist : ∀ j o t, rs[j]? = some o → o.dst = some t → r.dst = some t → j = i)
    (hwait : ∀ j o' t, rs[j]? = some o' → o'.dst = some t → readsT ops o t = true → j < i ∧ listed.getD j false = true)
    (hK : ∀ F' p' a' w', Mid N rs fs e s F0 w0 p0 ds (listed.setIfInBounds i true) F' p' a' w' → K a' w') : wpOpIn (WI none) 0 P ops Q i K a w := by
  obtain ⟨l1, l2, l3, l4⟩ := lite2_spec hlo
  obtain ⟨f, hf, hok⟩ := allOK_get hall i r hi
  have hilt : i < rs.length := (List.getElem?_eq_some_iff.1 hi).1
  have hk : ¬ DL s rs.length listed (s.nx + i) := by
    rintro (h | ⟨j, _, h2, h3⟩)
    · omega
    · have : i = j := by omega
      subst this; rw [hun] at h2; cases h2
  have hval : ∀ t, readsT ops o t = true → VR F w p (DL s rs.length listed) (get (envF e (rs.take i) (fs.take i)) t) (a.tmps.getD t undef) := by
    intro t ht
    rcases get_envF (rs.take i) (fs.take i) e t (by simp [hfs]) with ⟨h1, h2⟩ | ⟨j, o', f', h1, h2, h3, h4⟩
    · rw [h1]
      refine m.old t fun j o' ho' hl hdt => ?_
      obtain ⟨h5, _⟩ := hwait j o' t ho' hdt ht
      exact h2 j o' (by rw [List.getElem?_take, if_pos h5]; exact ho') hdt
    · rw [h4]
      have hji : j < i := by
        have := (List.getElem?_eq_some_iff.1 h1).1
        rw [List.length_take] at this; omega
      rw [List.getElem?_take, if_pos hji] at h1 h2
      exact m.new j o' f' t h1 h2 (hwait j o' t h1 h3 ht).2 h3
  have hop : ∀ x ∈ o.op.operands, ∀ y, opd x = some y → VR F w p (DL s rs.length listed) (ev (envF e (rs.take i) (fs.take i)) y) (a.eval x) := by
    intro x hx y hy
    refine vr_opd' (fun t ht => hval t ?_) hy
    subst ht
    simp only [readsT, Bool.or_eq_true]
    left
    exact Array.any_eq_true'.2 ⟨_, hx, by simp⟩
  have hgd : ∀ t b, r.guard = some (t, b) → VR F w p (DL s rs.length listed) (get (envF e (rs.take i) (fs.take i)) t) (a.tmps.getD t undef) := by
    intro t b hg
    refine hval t ?_
    cases hog : o.guard with
    | none => rw [hog, hg] at l2; simp [liteG] at l2
    | some x =>
      obtain ⟨j, b'⟩ := x
      rw [hog, hg] at l2
      simp only [liteG, Option.map_eq_some_iff, Option.some.injEq, Prod.mk.injEq] at l2
      obtain ⟨t', h1, rfl, rfl⟩ := l2
      simp [readsT, hog, h1]
  have hwant := wanted_of' hgd l2
  have hnext : ∀ {u : Value} {w' : World} {F' : Nat → Prop}, PR F w p (DL s rs.length listed) (s.nx + i) F' w' u f.1 f.2 → K (a.put o.dst u) w' := by
    intro u w' F' h
    rw [← l3]
    exact hK _ _ _ _ (m.next hi hf hun hsz hdist (fun d hd => l4 d (by rw [← l3]; exact hd)) h)
  unfold wpOpIn
  simp only [ho]
  unfold factOK at hok
  split at hok
  · rename_i hg
    rw [if_pos (hwant.1 hg)]
    refine (ach_sound m.sto hk l1 hop hok).wpIn (lite1_nodefer l1) ?_
    rintro u w' ⟨F', h⟩
    exact hnext h
  · rename_i g b hg
    obtain ⟨t, v, ht, hfe, h1⟩ := hok
    have hw := hwant.2 g b t hg ht
    cases t with
    | true =>
      rw [if_pos hw]
      refine (ach_sound m.sto hk l1 hop (h1 rfl)).wpIn (lite1_nodefer l1) ?_
      rintro u w' ⟨F', h⟩
      refine hnext (F' := F') ?_
      rw [hfe]
      exact { h with val := .opt true v u (fun _ => h.val) (fun h => by cases h) }
    | false =>
      rw [if_neg (by rw [hw]; simp)]
      refine ⟨fun _ _ => trivial, hnext (F' := F) ?_⟩
      rw [hfe]
      exact ⟨.refl w, fun _ h => h, fun _ h => .inl h, fun r hr => (by cases hr), .opt false v undef (fun h => by cases h) (fun _ => rfl)⟩

theorem Mid.done {rs : List RP} {fs : List Fact} {e : Env} {s : Store} {F0 : Nat → Prop} {w0 : World} {p0 : Place} {ds : List Deferred} {listed : Array Bool} {F : Nat → Prop} {p : Place} {a : Act} {w : World}
    (hr0 : SRel F0 w0 p0 (fun i => i < s.nx) s.rows) (hn : n0 ≤ s.nx)
    (m : Mid N rs fs e s F0 w0 p0 ds listed F p a w) (hfs : fs.length = rs.length) (hl : ∀ j, j < rs.length → listed.getD j false = true) :
    Rel N F w p (envF e rs fs) ⟨s.nx + rs.length, accF s.nx s.rows fs⟩ a ∧ Evo n0 F0 w0 p0 s F w p ⟨s.nx + rs.length, accF s.nx s.rows fs⟩ := by
  have hDL : ∀ x, DL s rs.length listed x → x < s.nx + rs.length := by
    rintro x (h | ⟨j, h1, _, h3⟩) <;> omega
  have conv : ∀ {v : AV} {u : Value}, VR F w p (DL s rs.length listed) v u → VR F w p (fun i => i < s.nx + rs.length) v u := fun h =>
    h.mono (fun _ h => h) (fun _ _ => rfl) (fun b c t fz hb => ⟨c, t, fz, hb, rfl⟩) (fun _ _ => rfl) hDL
  have rowOK : ∀ {r : Row} {b o : Nat}, RowOK F w p (DL s rs.length listed) r b o → RowOK F w p (fun i => i < s.nx + rs.length) r b o := by
    rintro r b o ⟨⟨c, t, fz, hb, hfz, hr, hv⟩, hz⟩
    exact ⟨⟨c, t, fz, hb, hfz, hr, fun i x j v hx hj => conv (hv i x j v hx hj)⟩, hz⟩
  have hcase : ∀ id r, look (accF s.nx s.rows fs) id = some r → (∃ j f, j < rs.length ∧ fs[j]? = some f ∧ f.1 = some r ∧ id = s.nx + j) ∨ look s.rows id = some r := by
    intro id r h
    rcases look_accF fs s.nx s.rows id r h with ⟨j, f, h1, h2, h3⟩ | h
    · exact .inl ⟨j, f, by have := (List.getElem?_eq_some_iff.1 h1).1; omega, h1, h2, h3⟩
    · exact .inr h
  have hlt : ∀ id r, look s.rows id = some r → id < s.nx ∧ (p0 id).1 < w0.heap.size ∧ p id = p0 id := by
    intro id r h
    obtain ⟨h1, _, ⟨c, t, fz, hb, _⟩, _⟩ := hr0.row id r h
    exact ⟨h1, lt_of_heap hb, m.keep id h1⟩
  refine ⟨⟨⟨m.size, fun t => ?_⟩, ⟨fun id r h => ?_, fun id id' r r' h h' hne => ?_, m.sto.old⟩⟩, ?_⟩
  · rcases get_envF rs fs e t hfs with ⟨h1, h2⟩ | ⟨j, o, f, h1, h2, h3, h4⟩
    · rw [h1]; exact conv (m.old t fun j o ho _ => h2 j o ho)
    · rw [h4]; exact conv (m.new j o f t h1 h2 (hl j (List.getElem?_eq_some_iff.1 h1).1) h3)
  · rcases hcase id r h with ⟨j, f, h1, h2, h3, rfl⟩ | h
    · obtain ⟨g1, g2, g3⟩ := m.row j f r h1 h2 (hl j h1) h3
      exact ⟨by show _ < _; simp only; omega, g2, rowOK g3⟩
    · obtain ⟨g1, g2, g3⟩ := m.sto.row id r h
      exact ⟨hDL _ g1, g2, rowOK g3⟩
  · rcases hcase id r h with ⟨j, f, h1, h2, h3, rfl⟩ | h <;> rcases hcase id' r' h' with ⟨j', f', h1', h2', h3', rfl⟩ | h'
    · exact m.apart j j' f f' r r' h1 h1' h2 h2' (hl j h1) (hl j' h1') h3 h3' (fun e => hne (by rw [e]))
    · have := (m.row j f r h1 h2 (hl j h1) h3).1
      obtain ⟨_, k2, k3⟩ := hlt id' r' h'
      rw [k3]; exact fun e => by omega
    · have := (m.row j' f' r' h1' h2' (hl j' h1') h3').1
      obtain ⟨_, k2, k3⟩ := hlt id r h
      rw [k3]; exact fun e => by omega
    · exact m.sto.apart id id' r r' h h' hne
  · refine ⟨m.grow.os, m.grow.tape, m.grow.output, m.grow.size, fun b hb _ => m.grow.same b hb, fun b c t fz hb => ⟨c, t, fz, m.grow.cells hb, rfl⟩, m.inF, fun b hb => (m.newF b hb).imp (fun h => h) (fun h => .inl h.1), ?_,
      fun id hid => m.keep id (Nat.lt_of_lt_of_le hid hn), Nat.le_trans hn (Nat.le_add_right _ _)⟩
    rintro b ⟨id, r, h, rfl⟩
    rcases hcase id r h with ⟨j, f, h1, h2, h3, rfl⟩ | h
    · exact .inl (m.row j f r h1 h2 (hl j h1) h3).1
    · right; rw [(hlt id r h).2.2]; exact ⟨id, r, h, rfl⟩

theorem awp_draw {Q : Exit → Env → Store → Prop} {id : Nat} {e : Env} {s : Store} {rs rs2 : List RP} (hm : P.follows .mixedOrders = true) (n : Nat) (hB : drawOK ops n = true)
    (h1 : mapO (lite2 P N ops) (ops.toList.take n) = some rs) (h2 : mapO (lite2 P N ops) (ops.toList.drop n) = some rs2)
    (h : dR P s.rows s.nx rs (fun e s => seqR P rs2 (fun e s => Q .normal e s) e s) s.rows e) : awp P N n0 none (.region id ops true) Q e s := by
  intro F w p a hn hr
  refine wpIn_region_any hm ?_
  obtain ⟨fs, hfs, hall, hK⟩ := dR_facts h
  simp only [drawOK, Bool.and_eq_true, Bool.or_eq_true, decide_eq_true_eq] at hB
  obtain ⟨⟨⟨hpre, hnle⟩, htail⟩, hseq⟩ := hB
  have hrl : rs.length = n := by rw [(mapO_some h1).1]; simp; omega
  have hrs : ∀ (i : Nat) (o : Oper), i < n → ops[i]? = some o → ∃ r, rs[i]? = some r ∧ lite2 P N ops o = some r := by
    intro i o hi ho
    obtain ⟨y, g1, g2⟩ := (mapO_some h1).2 i o (by rw [List.getElem?_take, if_pos hi]; simpa using ho)
    exact ⟨y, g2, g1⟩
  have hops : ∀ (i : Nat) (r : RP), rs[i]? = some r → ∃ o, ops[i]? = some o ∧ lite2 P N ops o = some r := by
    intro i r hi
    have hil : i < n := by rw [← hrl]; exact (List.getElem?_eq_some_iff.1 hi).1
    have ho : ops[i]? = some (ops[i]'(by omega)) := by simp
    obtain ⟨r', g1, g2⟩ := hrs i _ hil ho
    rw [hi] at g1; cases g1
    exact ⟨_, ho, g2⟩
  have pair : ∀ i j, i < n → j < n → pairOK ops n i j = true := fun i j hi hj => by
    have := List.all_eq_true.1 hpre i (List.mem_range.2 hi)
    simp only [Bool.and_eq_true] at this
    exact List.all_eq_true.1 this.2 j (List.mem_range.2 hj)
  have back : ∀ i, i < n → backOK ops i = true := fun i hi => by
    have := List.all_eq_true.1 hpre i (List.mem_range.2 hi)
    simp only [Bool.and_eq_true] at this
    exact this.1
  let w1 : World := { w with drawn := w.drawn + 1 }
  have hg1 : Grow w w1 := ⟨rfl, rfl, rfl, Nat.le_refl _, fun _ _ => rfl⟩
  have hs1 : SRel F w1 p (fun i => i < s.nx) s.rows := hr.sto.grow hg1 (fun _ _ => rfl) (fun _ h => h)
  have hev1 : Evo n0 F w p s F w1 p s :=
    ⟨rfl, rfl, rfl, Nat.le_refl _, fun _ _ _ => rfl, fun b c t fz hb => ⟨c, t, fz, hb, rfl⟩, fun _ h => h, fun _ h => .inl h, fun _ h => .inr h, fun _ _ => rfl, hn⟩
  have main : ∀ (c : Nat) (listed : Array Bool) (F' : Nat → Prop) (p' : Place) (a' : Act) (w' : World), cnt listed n = c → HeadInv .any ops n listed → Mid N rs fs e s F w1 p a.defers listed F' p' a' w' →
      wpAnyIn (WI none) 0 P .any ops (Post P N n0 Q F w p s a.defers) (c + (ops.size - n)) listed a' w' := by
    intro c
    induction c with
    | zero =>
      intro listed F' p' a' w' hc inv m
      have hl := cnt_zero hc
      obtain ⟨g1, g2⟩ := m.done hs1 hn hfs (fun j hj => hl j (by omega))
      have hlist : listed = Array.ofFn (n := ops.size) fun i => decide (i.val < n) := by
        apply Array.ext
        · rw [inv.size, Array.size_ofFn]
        · intro i hi1 hi2
          rw [Array.getElem_ofFn]
          by_cases hin : i < n
          · have := hl i hin
            simp only [Array.getD_eq_getD_getElem?, Array.getElem?_eq_getElem hi1, Option.getD_some] at this
            rw [this]; simp [hin]
          · have := inv.tail i (by omega) (by rw [← inv.size]; exact hi1)
            simp only [Array.getD_eq_getD_getElem?, Array.getElem?_eq_getElem hi1, Option.getD_some] at this
            rw [this]; simp [hin]
      have hdl : (ops.toList.drop n).length = ops.size - n := by simp
      rw [Nat.zero_add, ← hdl]
      refine wpAnyIn_of_seq (ops.toList.drop n) n listed a' w' (fun j => by simp [List.getElem?_drop]) (by rw [hdl, hlist]; exact hseq) ?_
      refine seq_sound _ rs2 F' w' p' (envF e rs fs) ⟨s.nx + rs.length, accF s.nx s.rows fs⟩ a' h2 g1 (hev1.trans g2) m.defs ?_
      exact hK
    | succ c ih =>
      intro listed F' p' a' w' hc inv m
      obtain ⟨i0, hi0, hu0, hbef⟩ := cnt_pos (listed := listed) (n := n) (by omega)
      rw [show c + 1 + (ops.size - n) = (c + (ops.size - n)) + 1 by omega]
      refine ⟨fun hnil => ?_, fun i hi => ?_⟩
      · exfalso
        have hb := back i0 hi0
        unfold backOK at hb
        split at hb
        · rename_i o ho
          have : i0 ∈ Region.ready .any ops listed := by
            refine mem_ready.2 ⟨getD_in (by rw [inv.size]; omega) hu0, o, ho, fun ed hed hbind => ?_⟩
            have := Array.all_eq_true'.1 hb ed hed
            simp only [Bool.or_eq_true, Bool.not_eq_true', decide_eq_true_eq] at this
            rcases this with h9 | h9
            · rw [hbind] at h9; cases h9
            · exact hbef _ h9
          rw [hnil] at this; cases this
        · cases hb
      · obtain ⟨hun, o, ho, hedges⟩ := mem_ready.1 hi
        have hisz : i < ops.size := (Array.getElem?_eq_some_iff.1 ho).1
        have hin : i < n := by
          rcases Nat.lt_or_ge i n with h | h
          · exact h
          · rcases htail with h9 | ⟨hsink, hchain⟩
            · omega
            · exact absurd hi (tail_waits hsink hchain (by omega) inv _ i0 rfl hi0 (getD_in (by rw [inv.size]; omega) hu0) i h)
        obtain ⟨r, hr1, hr2⟩ := hrs i o hin ho
        have l3 := (lite2_spec hr2).2.2.1
        refine m.step ho hr1 hr2 hfs hall (getD_both hun) (by rw [inv.size]; exact hisz) ?_ ?_ ?_
        · intro j o' t hj hdt hdr
          obtain ⟨oj, hoj, hlj⟩ := hops j o' hj
          have hjn : j < n := by rw [← hrl]; exact (List.getElem?_eq_some_iff.1 hj).1
          have hp := pair i j hin hjn
          have l3' := (lite2_spec hlj).2.2.1
          unfold pairOK at hp
          rw [ho, hoj] at hp
          simp only [← l3', hdt, ← l3, hdr, bne_self_eq_false, Bool.or_false, Bool.and_eq_true, beq_iff_eq] at hp
          exact hp.1.symm
        · intro j o' t hj hdt hrd
          obtain ⟨oj, hoj, hlj⟩ := hops j o' hj
          have hjn : j < n := by rw [← hrl]; exact (List.getElem?_eq_some_iff.1 hj).1
          have hp := pair i j hin hjn
          have l3' := (lite2_spec hlj).2.2.1
          unfold pairOK at hp
          rw [ho, hoj] at hp
          simp only [← l3', hdt, hrd, Bool.not_true, Bool.false_or, Bool.and_eq_true, decide_eq_true_eq] at hp
          obtain ⟨o'', ho'', ed, hed, hbind, hon⟩ := Region.waitsFor_spec hp.2.2
          rw [ho] at ho''; cases ho''
          refine ⟨hp.2.1, ?_⟩
          rw [← hon]; exact hedges ed hed hbind
        · intro F'' p'' a'' w'' hm'
          exact ih _ F'' p'' a'' w'' (by have := cnt_set (listed := listed) (n := n) (by rw [inv.size]; exact hisz) (getD_both hun) hin; omega) (inv.set hi hin) hm'
  have hsize : ops.size = n + (ops.size - n) := by omega
  have hc0 : ∀ k, cnt (Array.replicate ops.size false) k = k := by
    intro k
    induction k with
    | zero => rfl
    | succ k ih => simp only [cnt, ih, getD_replicate_false]; simp
  have inv0 : HeadInv .any ops n (Array.replicate ops.size false) :=
    ⟨by simp, fun j oj _ hl => (by rw [getD_replicate_false] at hl; cases hl), fun t _ ht => getD_in (by simpa using ht) (getD_replicate_false _ _)⟩
  have hmid : Mid N rs fs e s F w1 p a.defers (Array.replicate ops.size false) F p a w1 := by
    have no : ∀ {j : Nat}, ¬ (Array.replicate ops.size false).getD j false = true := fun h => by rw [getD_replicate_false] at h; cases h
    have toD : ∀ i, i < s.nx → (i < s.nx ∨ ∃ j, j < rs.length ∧ (Array.replicate ops.size false).getD j false = true ∧ i = s.nx + j) := fun i h => .inl h
    refine ⟨.refl w1, fun _ h => h, fun _ h => .inl h, fun _ _ => rfl, rfl, hr.env.size, fun j o f t _ _ h => absurd h no, fun t _ => ?_, ?_, fun j f r _ _ h => absurd h no, fun j j' f f' r r' _ _ _ _ h => absurd h no⟩
    · exact (hr.env.val t).grow hg1 hr.sto.old (fun _ _ => rfl) toD
    · exact hr.sto.grow hg1 (fun _ _ => rfl) toD
  have := main n _ F p a w1 (hc0 n) inv0 hmid
  rw [← hsize] at this
  exact this
end
end Go.Proofs.Ytcgodcpgdnfjpaa.Ai
