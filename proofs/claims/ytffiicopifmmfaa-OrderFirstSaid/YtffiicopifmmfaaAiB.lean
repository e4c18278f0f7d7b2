/-
  What the code does to the abstract state: awp, and the rules of control. Plain facts, no condition.
-/
import Derived.Test.YtffiicopifmmfaaAiA
namespace Go.Proofs.Ytffiicopifmmfaa.Ai
set_option linter.unusedSimpArgs false
set_option linter.unusedVariables false
set_option linter.unnecessarySimpa false
set_option linter.unusedSectionVars false
set_option linter.unusedVariables false

/-- The fence that lets all by; r: the loop in whose round the code runs, if any. -/
def WI (r : Option Nat) : Fence := { fn := fun _ => True, depth := none, alive := false, round := r }

structure Rel (N : Nat) (F : Nat → Prop) (w : World) (p : Place) (e : Env) (s : Store) (a : Act) : Prop where
  env : ERel N F w p (fun i => i < s.nx) e a.tmps
  sto : SRel F w p (fun i => i < s.nx) s.rows

def RowAt (p : Place) (s : Store) (b : Nat) : Prop := ∃ id r, look s.rows id = some r ∧ (p id).1 = b

structure Evo (n0 : Nat) (F : Nat → Prop) (w : World) (p : Place) (s : Store) (F' : Nat → Prop) (w' : World) (p' : Place) (s' : Store) : Prop where
  os : w'.os = w.os
  tape : w'.tape = w.tape
  output : w'.output = w.output
  size : w.heap.size ≤ w'.heap.size
  same : ∀ b, b < w.heap.size → ¬ RowAt p s b → w'.heap[b]? = w.heap[b]?
  cells : ∀ (b : Nat) (c : Array Value) (t : TypeId) (fz : Nat × Nat), w.heap[b]? = some (Obj.cells c t fz) → ∃ (c' : Array Value) (t' : TypeId) (fz' : Nat × Nat), w'.heap[b]? = some (Obj.cells c' t' fz') ∧ c'.size = c.size
  inF : ∀ b, F b → F' b
  newF : ∀ b, F' b → F b ∨ w.heap.size ≤ b ∨ RowAt p s b
  rows : ∀ b, RowAt p' s' b → w.heap.size ≤ b ∨ RowAt p s b
  keep : ∀ id, id < n0 → p' id = p id
  nx : n0 ≤ s'.nx

theorem Evo.refl {n0 : Nat} {F : Nat → Prop} {w : World} {p : Place} {s : Store} (h : n0 ≤ s.nx) : Evo n0 F w p s F w p s :=
  ⟨rfl, rfl, rfl, Nat.le_refl _, fun _ _ _ => rfl, fun b c t fz h => ⟨c, t, fz, h, rfl⟩, fun _ h => h, fun _ h => .inl h, fun _ h => .inr h, fun _ _ => rfl, h⟩

theorem Evo.trans {n0 : Nat} {F1 F2 F3 : Nat → Prop} {w1 w2 w3 : World} {p1 p2 p3 : Place} {s1 s2 s3 : Store}
    (h : Evo n0 F1 w1 p1 s1 F2 w2 p2 s2) (k : Evo n0 F2 w2 p2 s2 F3 w3 p3 s3) : Evo n0 F1 w1 p1 s1 F3 w3 p3 s3 where
  os := k.os.trans h.os
  tape := k.tape.trans h.tape
  output := k.output.trans h.output
  size := Nat.le_trans h.size k.size
  same b hb hn := by
    rw [k.same b (Nat.lt_of_lt_of_le hb h.size) (fun hr => (h.rows b hr).elim (fun h => by omega) hn), h.same b hb hn]
  cells b c t fz hb := by
    obtain ⟨c', t', fz', h1, h2⟩ := h.cells b c t fz hb
    obtain ⟨c'', t'', fz'', h3, h4⟩ := k.cells b c' t' fz' h1
    exact ⟨c'', t'', fz'', h3, h4.trans h2⟩
  inF b hb := k.inF b (h.inF b hb)
  newF b hb := by
    rcases k.newF b hb with h1 | h1 | h1
    · exact h.newF b h1
    · exact .inr (.inl (Nat.le_trans h.size h1))
    · exact .inr (h.rows b h1)
  rows b hb := by
    rcases k.rows b hb with h1 | h1
    · exact .inl (Nat.le_trans h.size h1)
    · exact h.rows b h1
  keep id hid := (k.keep id hid).trans (h.keep id hid)
  nx := k.nx

theorem Evo.weaken {n0 n1 : Nat} {F1 F2 : Nat → Prop} {w1 w2 : World} {p1 p2 : Place} {s1 s2 : Store} (h : Evo n1 F1 w1 p1 s1 F2 w2 p2 s2) (hn : n0 ≤ n1) :
    Evo n0 F1 w1 p1 s1 F2 w2 p2 s2 :=
  { h with keep := fun id hid => h.keep id (by omega), nx := Nat.le_trans hn h.nx }

/-- What stands apart from the rows reads as it did. -/
theorem VR.evo {n0 : Nat} {F F' : Nat → Prop} {w w' : World} {p p' : Place} {s s' : Store} {D D' : Nat → Prop} {v : AV} {u : Value} (h : VR F w p D v u)
    (hs : SRel F w p (fun i => i < s.nx) s.rows) (k : Evo n0 F w p s F' w' p' s') (hD : ∀ i, D i → i < n0) (hD' : ∀ i, D i → D' i) : VR F' w' p' D' v u :=
  h.mono k.inF (fun b hb => k.same b (hs.old b hb) (fun ⟨id, r, hl, he⟩ => (hs.row id r hl).2.1 (he ▸ hb))) k.cells (fun i hi => k.keep i (hD i hi)) hD'

/-- How code ends, on abstract values. -/
inductive AX where
  | normal
  | ret
  | exit (id : Nat)
  | pan (v : AV)
  deriving Inhabited

inductive ExR (F : Nat → Prop) (w : World) (p : Place) (D : Nat → Prop) : AX → Exit → Prop
  | normal : ExR F w p D .normal .normal
  | ret : ExR F w p D .ret .ret
  | exit (id : Nat) : ExR F w p D (.exit id) (.exit id)
  | pan (v : AV) (u : Value) (h : VR F w p D v u) : ExR F w p D (.pan v) (.panic [{ v := u, recovered := false }])

def Post (P : Program) (N n0 : Nat) (Q : AX → Env → Store → Prop) (F : Nat → Prop) (w : World) (p : Place) (s : Store) (ds : List Deferred) (x : Exit) (a' : Act) (w' : World) : Prop :=
  ∃ F' p' e' s' x', ExR F' w' p' (fun i => i < s'.nx) x' x ∧ Q x' e' s' ∧ Rel N F' w' p' e' s' a' ∧ Evo n0 F w p s F' w' p' s' ∧ a'.defers = ds

def awp (P : Program) (N n0 : Nat) (ro : Option Nat) (c : Code) (Q : AX → Env → Store → Prop) (e : Env) (s : Store) : Prop :=
  ∀ F w p a, n0 ≤ s.nx → Rel N F w p e s a → c.wpIn (WI ro) 0 P (Post P N n0 Q F w p s a.defers) a w

section
variable {P : Program} {N n0 : Nat} {ro : Option Nat} {Q : AX → Env → Store → Prop} {e : Env} {s : Store}

theorem Post.here {F : Nat → Prop} {w : World} {p : Place} {a : Act} {x : AX} {x0 : Exit} (hx : ExR F w p (fun i => i < s.nx) x x0) (h : Q x e s) (hn : n0 ≤ s.nx) (hr : Rel N F w p e s a) : Post P N n0 Q F w p s a.defers x0 a w :=
  ⟨F, p, e, s, x, hx, h, hr, .refl hn, rfl⟩

theorem awp_mono {c : Code} {Q' : AX → Env → Store → Prop} (h : awp P N n0 ro c Q e s) (hq : ∀ x e s, Q x e s → Q' x e s) : awp P N n0 ro c Q' e s :=
  fun F w p a hn hr => Code.wpIn_mono (fun x a w ⟨F', p', e', s', x', h0, h1, h2⟩ => ⟨F', p', e', s', x', h0, hq _ _ _ h1, h2⟩) (h F w p a hn hr)

theorem awp_skip (h : Q .normal e s) : awp P N n0 ro .skip Q e s := fun F w p a hn hr => wpIn_skip (.here .normal h hn hr)
theorem awp_ret (h : Q .ret e s) : awp P N n0 ro .ret Q e s := fun F w p a hn hr => wpIn_ret (.here .ret h hn hr)
theorem awp_exit {id : Nat} (h : Q (.exit id) e s) : awp P N n0 ro (.exit id) Q e s := fun F w p a hn hr => wpIn_exit (.here (.exit id) h hn hr)

def thn (K : Env → Store → Prop) (Q : AX → Env → Store → Prop) : AX → Env → Store → Prop
  | .normal, e, s => K e s
  | x, e, s => Q x e s

theorem awp_seq {c d : Code} (h : awp P N n0 ro c (thn (awp P N n0 ro d Q) Q) e s) : awp P N n0 ro (.seq c d) Q e s := by
  intro F w p a hn hr
  refine wpIn_seq (Code.wpIn_mono ?_ (h F w p a hn hr))
  intro x a1 w1 hp
  obtain ⟨F1, p1, e1, s1, x1, h0, h1, h2, h3, h4⟩ := hp
  cases h0 <;> try exact ⟨F1, p1, e1, s1, _, by constructor <;> assumption, h1, h2, h3, h4⟩
  refine Code.wpIn_mono ?_ (h1 F1 w1 p1 a1 h3.nx h2)
  rintro x a2 w2 ⟨F2, p2, e2, s2, x2, k0, k1, k2, k3, k4⟩
  exact ⟨F2, p2, e2, s2, x2, k0, k1, k2, h3.trans k3, k4.trans h4⟩

def blk (id : Nat) (Q : AX → Env → Store → Prop) : AX → Env → Store → Prop
  | .exit i, e, s => bif i == id then Q .normal e s else Q (.exit i) e s
  | x, e, s => Q x e s

theorem awp_block {id : Nat} {c : Code} (h : awp P N n0 ro c (blk id Q) e s) : awp P N n0 ro (.block id c) Q e s := by
  intro F w p a hn hr
  refine wpIn_block (Code.wpIn_mono ?_ (h F w p a hn hr))
  intro x a1 w1 hp
  obtain ⟨F1, p1, e1, s1, x1, h0, h1, h2, h3, h4⟩ := hp
  cases h0 <;> try exact ⟨F1, p1, e1, s1, _, by constructor <;> assumption, h1, h2, h3, h4⟩
  rename_i i
  by_cases hi : i = id
  · subst hi
    simp only [Exit.inBlock, if_true]
    exact ⟨F1, p1, e1, s1, .normal, .normal, by simpa [blk] using h1, h2, h3, h4⟩
  · simp only [Exit.inBlock, if_neg hi]
    exact ⟨F1, p1, e1, s1, .exit i, .exit i, by simpa [blk, hi] using h1, h2, h3, h4⟩

/-- One state stands for another: what is forgotten, or no longer written. -/
def Wk (n0 : Nat) (e : Env) (s : Store) (e' : Env) (s' : Store) : Prop :=
  ∀ N F w p a, n0 ≤ s.nx → Rel N F w p e s a → ∃ F' p', Rel N F' w p' e' s' a ∧ Evo n0 F w p s F' w p' s'

theorem Wk.refl : Wk n0 e s e s := fun N F w p a hn hr => ⟨F, p, hr, .refl hn⟩
theorem Wk.trans {e1 e2 : Env} {s1 s2 : Store} (h : Wk n0 e s e1 s1) (k : Wk n0 e1 s1 e2 s2) : Wk n0 e s e2 s2 := by
  intro N F w p a hn hr
  obtain ⟨F1, p1, h1, h2⟩ := h N F w p a hn hr
  obtain ⟨F2, p2, h3, h4⟩ := k N F1 w p1 a h2.nx h1
  exact ⟨F2, p2, h3, h2.trans h4⟩

theorem awp_wk {c : Code} {e' : Env} {s' : Store} (hw : Wk n0 e s e' s') (h : awp P N n0 ro c Q e' s') : awp P N n0 ro c Q e s := by
  intro F w p a hn hr
  obtain ⟨F1, p1, h1, h2⟩ := hw N F w p a hn hr
  refine Code.wpIn_mono ?_ (h F1 w p1 a h2.nx h1)
  rintro x a2 w2 ⟨F2, p2, e2, s2, x2, k0, k1, k2, k3, k4⟩
  exact ⟨F2, p2, e2, s2, x2, k0, k1, k2, h2.trans k3, k4⟩

theorem least (q : Nat → Prop) (h : ∃ n, q n) : ∃ n, q n ∧ ∀ m, q m → n ≤ m := by
  obtain ⟨n, hn⟩ := h
  induction n using Nat.strongRecOn with
  | _ n ih =>
    by_cases hm : ∃ m, m < n ∧ q m
    · obtain ⟨m, hlt, hq⟩ := hm; exact ih m hlt hq
    · exact ⟨n, hn, fun m hq => Nat.le_of_not_lt fun hlt => hm ⟨m, hlt, hq⟩⟩

open Classical in
theorem awp_loop {c : Code} (I : Env → Store → Prop) (μ : Env → Store → Nat) (h0 : I e s)
    (round : ∀ e s, I e s → awp P N n0 ro c (thn (fun e' s' => ∃ e'' s'', Wk n0 e' s' e'' s'' ∧ I e'' s'' ∧ μ e'' s'' < μ e s) Q) e s) : awp P N n0 ro (.loop c) Q e s := by
  intro F w p a hn hr
  let J (n : Nat) (a' : Act) (w' : World) : Prop := ∃ F' p' e' s', I e' s' ∧ μ e' s' = n ∧ Rel N F' w' p' e' s' a' ∧ Evo n0 F w p s F' w' p' s' ∧ a'.defers = a.defers
  let M (a' : Act) (w' : World) : Nat := if h : ∃ n, J n a' w' then Classical.choose (least _ h) else 0
  have hM : ∀ a' w' n, J n a' w' → J (M a' w') a' w' ∧ M a' w' ≤ n := by
    intro a' w' n hJ
    have hx : ∃ n, J n a' w' := ⟨n, hJ⟩
    have hc := Classical.choose_spec (least _ hx)
    simp only [M, dif_pos hx]
    exact ⟨hc.1, hc.2 n hJ⟩
  refine wpIn_loop (fun a' w' => ∃ n, J n a' w') M ⟨_, F, p, e, s, h0, rfl, hr, .refl hn, rfl⟩ ?_
  rintro a1 w1 ⟨n, hJ⟩
  obtain ⟨⟨F1, p1, e1, s1, h1, h2, h3, h4, h5⟩, hle⟩ := hM a1 w1 n hJ
  refine Code.wpIn_mono ?_ (round e1 s1 h1 F1 w1 p1 a1 h4.nx h3)
  rintro x a2 w2 ⟨F2, p2, e2, s2, x2, k0, k1, k2, k3, k4⟩
  cases k0 <;> try exact ⟨F2, p2, e2, s2, _, by constructor <;> assumption, k1, k2, h4.trans k3, k4.trans h5⟩
  obtain ⟨e3, s3, hw, hI, hlt⟩ := k1
  obtain ⟨F3, p3, l1, l2⟩ := hw N F2 w2 p2 a2 k3.nx k2
  have hJ3 : J (μ e3 s3) a2 w2 := ⟨F3, p3, e3, s3, hI, rfl, l1, (h4.trans k3).trans l2, k4.trans h5⟩
  exact ⟨⟨_, hJ3⟩, Nat.lt_of_le_of_lt (hM a2 w2 _ hJ3).2 (h2 ▸ hlt)⟩
end
end Go.Proofs.Ytffiicopifmmfaa.Ai
