/-
  Abstract values, and the tables of the program that its code reads: none. Plain facts, no condition.
-/
import Derived.TacticsIn
import Derived.OrdersIn
import Derived.Below
import Derived.Laws.Cells
import Derived.Laws.Entries
import Derived.ChangeKeysEq
namespace Go.Proofs.YtggmkfagcjdifaaDoor.Ai
set_option linter.unusedSimpArgs false
set_option linter.unusedVariables false
set_option linter.unnecessarySimpa false
set_option linter.unusedSectionVars false
set_option linter.unusedVariables false

inductive AV where
  | any
  | bool (b : Bool)
  | int (k : IntKind) (n : Int)
  | str (s : ByteArray)
  | nilp
  | nils
  | nilf
  | nili
  | agg (cs : List AV)
  | tup (cs : List AV)
  | ros (sz : Nat) (es : List (List AV))
  | rop (cs : List AV)
  | sl (id sz i n : Nat) (cap : Option Nat)
  | pt (id sz i off : Nat)
  | fn (f : Fn) (first captured : List AV)
  | ifc (t : TypeId) (v : AV)
  | nilm
  | roe (sz : Nat)
  | opt (t : Bool) (v : AV)
  deriving Inhabited

/-- SHA-256's first state and its round constants. -/
@[irreducible] def ivN : List Int := [1779033703, 3144134277, 1013904242, 2773480762, 1359893119, 2600822924, 528734635, 1541459225]
@[irreducible] def rcN : List Int := [1116352408, 1899447441, 3049323471, 3921009573, 961987163, 1508970993, 2453635748, 2870763221, 3624381080, 310598401, 607225278, 1426881987, 1925078388, 2162078206, 2614888103, 3248222580, 3835390401, 4022224774, 264347078, 604807628, 770255983, 1249150122, 1555081692, 1996064986, 2554220882, 2821834349, 2952996808, 3210313671, 3336571891, 3584528711, 113926993, 338241895, 666307205, 773529912, 1294757372, 1396182291, 1695183700, 1986661051, 2177026350, 2456956037, 2730485921, 2820302411, 3259730800, 3345764771, 3516065817, 3600352804, 4094571909, 275423344, 430227734, 506948616, 659060556, 883997877, 958139571, 1322822218, 1537002063, 1747873779, 1955562222, 2024104815, 2227730452, 2361852424, 2428436474, 2756734187, 3204031479, 3329325298]
@[irreducible] def fsT : List AV := ivN.map fun n => .int .u32 n
@[irreducible] def rcT : List AV := rcN.map fun n => .int .u32 n
/-- The tables of the program that its code reads. -/
@[irreducible] def gtab : List (Nat × List AV) := [(0, fsT), (1, rcT)]
end Go.Proofs.YtggmkfagcjdifaaDoor.Ai
namespace Go.Proofs.YtggmkfagcjdifaaDoor.Ai
set_option linter.unusedSimpArgs false
set_option linter.unusedVariables false
set_option linter.unnecessarySimpa false
set_option linter.unusedSectionVars false
set_option linter.unusedVariables false

def AV.cells : AV → List AV
  | .agg cs => cs
  | v => [v]

structure Row where
  sz : Nat
  es : List (List AV)
  deriving Inhabited

def look : List (Nat × Row) → Nat → Option Row
  | [], _ => none
  | (k, r) :: l, id => bif k == id then some r else look l id
def over : List (Nat × Row) → Nat → Row → List (Nat × Row)
  | [], _, _ => []
  | (k, q) :: l, id, r => bif k == id then (k, r) :: l else (k, q) :: over l id r
def drop : List (Nat × Row) → Nat → List (Nat × Row)
  | [], _ => []
  | (k, q) :: l, id => bif k == id then drop l id else (k, q) :: drop l id

structure Store where
  nx : Nat
  rows : List (Nat × Row)
  deriving Inhabited

abbrev Env := List (Nat × AV)
def get : Env → Nat → AV
  | [], _ => .any
  | (k, v) :: l, t => bif k == t then v else get l t

abbrev Place := Nat → Nat × Nat

inductive VR (F : Nat → Prop) (w : World) (p : Place) (D : Nat → Prop) : AV → Value → Prop
  | any (u : Value) : VR F w p D .any u
  | bool (b : Bool) : VR F w p D (.bool b) (.bool b)
  | int (k : IntKind) (n : Int) : VR F w p D (.int k n) (.int k n)
  | str (s : ByteArray) : VR F w p D (.str s) (.string s)
  | nilp : VR F w p D .nilp (.pointer none)
  | nils : VR F w p D .nils (.slice none 0 0)
  | nilf : VR F w p D .nilf .nilFunc
  | nili : VR F w p D .nili .nilIface
  | agg (cs : List AV) (us : Array Value) (hs : us.size = cs.length) (h : ∀ j v, cs[j]? = some v → VR F w p D v (us.getD j undef)) : VR F w p D (.agg cs) (.agg us)
  | tup (cs : List AV) (us : Array Value) (hs : us.size = cs.length) (h : ∀ j v, cs[j]? = some v → VR F w p D v (us.getD j undef)) : VR F w p D (.tup cs) (.tuple us)
  | rosNil (sz : Nat) : VR F w p D (.ros sz []) (.slice none 0 0)
  | rosEmp (sz : Nat) (a : Addr) (cap : Nat) : VR F w p D (.ros sz []) (.slice (some a) 0 cap)
  | ros (sz : Nat) (es : List (List AV)) (b o cap : Nat) (c : Array Value) (t : TypeId) (fz : Nat × Nat) (hb : w.heap[b]? = some (Obj.cells c t fz)) (hF : F b) (hcap : es.length ≤ cap)
      (hsz : ∀ x ∈ es, x.length = sz) (hr : o + es.length * sz ≤ c.size) (h : ∀ i x j v, es[i]? = some x → x[j]? = some v → VR F w p D v (c.getD (o + i * sz + j) undef)) :
      VR F w p D (.ros sz es) (.slice (some ⟨b, o, none⟩) es.length cap)
  | rop (cs : List AV) (b o : Nat) (c : Array Value) (t : TypeId) (fz : Nat × Nat) (hb : w.heap[b]? = some (Obj.cells c t fz)) (hF : F b)
      (hr : o + cs.length ≤ c.size) (h : ∀ j v, cs[j]? = some v → VR F w p D v (c.getD (o + j) undef)) : VR F w p D (.rop cs) (.pointer (some ⟨b, o, none⟩))
  | sl (id sz i n : Nat) (k : Option Nat) (a : Option Addr) (cap : Nat) (hid : D id) (hn : n ≤ cap) (hk : ∀ m, k = some m → cap = m)
      (ha : cap = 0 ∨ ∃ (c : Array Value) (t : TypeId) (fz : Nat × Nat), a = some ⟨(p id).1, (p id).2 + i * sz, none⟩ ∧ w.heap[(p id).1]? = some (Obj.cells c t fz) ∧ (p id).2 + (i + cap) * sz ≤ c.size) :
      VR F w p D (.sl id sz i n k) (.slice a n cap)
  | pt (id sz i off : Nat) (hid : D id) : VR F w p D (.pt id sz i off) (.pointer (some ⟨(p id).1, (p id).2 + i * sz + off, none⟩))
  | fn (f : Fn) (xs ys : List AV) (us vs : Array Value) (h1 : us.size = xs.length) (h2 : vs.size = ys.length) (h3 : ∀ j v, xs[j]? = some v → VR F w p D v (us.getD j undef))
      (h4 : ∀ j v, ys[j]? = some v → VR F w p D v (vs.getD j undef)) : VR F w p D (.fn f xs ys) (.func f us vs)
  | ifc (t : TypeId) (v : AV) (u : Value) (h : VR F w p D v u) : VR F w p D (.ifc t v) (.iface t u)
  | nilm : VR F w p D .nilm (.map none)
  | roe (sz : Nat) (a : Addr) (cap : Nat) : VR F w p D (.roe sz) (.slice (some a) 0 cap)
  | opt (t : Bool) (v : AV) (u : Value) (h1 : t = true → VR F w p D v u) (h2 : t = false → u = undef) : VR F w p D (.opt t v) u

theorem VR.mono {F F' : Nat → Prop} {w w' : World} {p p' : Place} {D D' : Nat → Prop} {v : AV} {u : Value} (h : VR F w p D v u)
    (hF : ∀ b, F b → F' b) (hw : ∀ b, F b → w'.heap[b]? = w.heap[b]?)
    (hc : ∀ (b : Nat) (c : Array Value) (t : TypeId) (fz : Nat × Nat), w.heap[b]? = some (Obj.cells c t fz) → ∃ (c' : Array Value) (t' : TypeId) (fz' : Nat × Nat), w'.heap[b]? = some (Obj.cells c' t' fz') ∧ c'.size = c.size)
    (hp : ∀ i, D i → p' i = p i) (hD : ∀ i, D i → D' i) : VR F' w' p' D' v u := by
  induction h with
  | any u => exact .any u
  | bool b => exact .bool b
  | int k n => exact .int k n
  | str s => exact .str s
  | nilp => exact .nilp
  | nils => exact .nils
  | nilf => exact .nilf
  | nili => exact .nili
  | agg cs us hs h ih => exact .agg cs us hs ih
  | tup cs us hs h ih => exact .tup cs us hs ih
  | rosNil sz => exact .rosNil sz
  | rosEmp sz a cap => exact .rosEmp sz a cap
  | ros sz es b o cap c t fz hb hFb hcap hsz hr h ih => exact .ros sz es b o cap c t fz ((hw b hFb).trans hb) (hF b hFb) hcap hsz hr ih
  | rop cs b o c t fz hb hFb hr h ih => exact .rop cs b o c t fz ((hw b hFb).trans hb) (hF b hFb) hr ih
  | sl id sz i n k a cap hid hn hk ha =>
    refine .sl id sz i n k a cap (hD _ hid) hn hk (ha.imp (fun h => h) ?_)
    rintro ⟨c, t, fz, h1, h2, h3⟩
    obtain ⟨c', t', fz', h4, h5⟩ := hc _ _ _ _ h2
    rw [hp _ hid]
    exact ⟨c', t', fz', h1, h4, h5 ▸ h3⟩
  | pt id sz i off hid => rw [← hp _ hid]; exact .pt id sz i off (hD _ hid)
  | fn f xs ys us vs h1 h2 h3 h4 ih3 ih4 => exact .fn f xs ys us vs h1 h2 ih3 ih4
  | ifc t v u h ih => exact .ifc t v u ih
  | nilm => exact .nilm
  | roe sz a cap => exact .roe sz a cap
  | opt t v u h1 h2 ih => exact .opt t v u ih h2

/-- A row of cells as a row of the store says. -/
structure RowOK (F : Nat → Prop) (w : World) (p : Place) (D : Nat → Prop) (r : Row) (b o : Nat) : Prop where
  ex : ∃ (c : Array Value) (t : TypeId) (fz : Nat × Nat), w.heap[b]? = some (Obj.cells c t fz) ∧ (fz.2 ≤ fz.1 ∨ c.size ≤ fz.1) ∧ o + r.es.length * r.sz ≤ c.size ∧
    ∀ i x j v, r.es[i]? = some x → x[j]? = some v → VR F w p D v (c.getD (o + i * r.sz + j) undef)
  sz : ∀ x ∈ r.es, x.length = r.sz

/-- The memory that never changes again; in it the tables of the program. -/
structure Old (F : Nat → Prop) (w : World) : Prop where
  lt : ∀ b, F b → b < w.heap.size
  glob : ∀ x ∈ gtab, VR F w (fun _ => (0, 0)) (fun _ => False) (.rop x.2) (.pointer (some ⟨x.1, 0, none⟩))
instance {F : Nat → Prop} {w : World} : CoeFun (Old F w) fun _ => ∀ b, F b → b < w.heap.size := ⟨Old.lt⟩
theorem Old.to {F F' : Nat → Prop} {w w' : World} (h : Old F w) (hlt : ∀ b, F' b → b < w'.heap.size) (hF : ∀ b, F b → F' b) (hw : ∀ b, F b → w'.heap[b]? = w.heap[b]?)
    (hc : ∀ (b : Nat) (c : Array Value) (t : TypeId) (fz : Nat × Nat), w.heap[b]? = some (Obj.cells c t fz) → ∃ (c' : Array Value) (t' : TypeId) (fz' : Nat × Nat), w'.heap[b]? = some (Obj.cells c' t' fz') ∧ c'.size = c.size) : Old F' w' :=
  ⟨hlt, fun x hx => (h.glob x hx).mono hF hw hc (fun _ h => h.elim) (fun _ h => h.elim)⟩

structure SRel (F : Nat → Prop) (w : World) (p : Place) (D : Nat → Prop) (rows : List (Nat × Row)) : Prop where
  row : ∀ id r, look rows id = some r → D id ∧ ¬ F (p id).1 ∧ RowOK F w p D r (p id).1 (p id).2
  apart : ∀ id id' r r', look rows id = some r → look rows id' = some r' → id ≠ id' → (p id).1 ≠ (p id').1
  old : Old F w

/-- Everything that was there is as it was. -/
structure Grow (w w' : World) : Prop where
  os : w'.os = w.os
  tape : w'.tape = w.tape
  output : w'.output = w.output
  size : w.heap.size ≤ w'.heap.size
  same : ∀ b, b < w.heap.size → w'.heap[b]? = w.heap[b]?
theorem Grow.refl (w : World) : Grow w w := ⟨rfl, rfl, rfl, Nat.le_refl _, fun _ _ => rfl⟩
theorem Grow.trans {a b c : World} (h : Grow a b) (k : Grow b c) : Grow a c :=
  ⟨k.os.trans h.os, k.tape.trans h.tape, k.output.trans h.output, Nat.le_trans h.size k.size, fun i hi => (k.same i (Nat.lt_of_lt_of_le hi h.size)).trans (h.same i hi)⟩
theorem lt_of_heap {w : World} {b : Nat} {o : Obj} (h : w.heap[b]? = some o) : b < w.heap.size := (Array.getElem?_eq_some_iff.1 h).1
theorem Grow.cells {w w' : World} (h : Grow w w') {b : Nat} {o : Obj} (hb : w.heap[b]? = some o) : w'.heap[b]? = some o := (h.same b (lt_of_heap hb)).trans hb

theorem Old.grow {F : Nat → Prop} {w w' : World} (h : Old F w) (hg : Grow w w') : Old F w' :=
  h.to (fun b hb => Nat.lt_of_lt_of_le (h b hb) hg.size) (fun _ h => h) (fun b hb => hg.same b (h b hb)) (fun b c t fz hb => ⟨c, t, fz, hg.cells hb, rfl⟩)
theorem Old.new {F F' : Nat → Prop} {w w' : World} (h : Old F w) (hg : Grow w w') (hF : ∀ b, F b → F' b) (hn : ∀ b, F' b → F b ∨ (w.heap.size ≤ b ∧ b < w'.heap.size)) : Old F' w' :=
  h.to (fun b hb => (hn b hb).elim (fun h1 => Nat.lt_of_lt_of_le (h b h1) hg.size) (fun h => h.2)) hF (fun b hb => hg.same b (h b hb)) (fun b c t fz hb => ⟨c, t, fz, hg.cells hb, rfl⟩)

theorem VR.grow {F : Nat → Prop} {w w' : World} {p p' : Place} {D D' : Nat → Prop} {v : AV} {u : Value} (h : VR F w p D v u) (hg : Grow w w') (hold : Old F w)
    (hp : ∀ i, D i → p' i = p i) (hD : ∀ i, D i → D' i) : VR F w' p' D' v u :=
  h.mono (fun _ h => h) (fun b hb => hg.same b (hold b hb)) (fun b c t fz hb => ⟨c, t, fz, hg.cells hb, rfl⟩) hp hD

theorem RowOK.grow {F : Nat → Prop} {w w' : World} {p p' : Place} {D D' : Nat → Prop} {r : Row} {b o : Nat} (h : RowOK F w p D r b o) (hg : Grow w w') (hold : Old F w)
    (hp : ∀ i, D i → p' i = p i) (hD : ∀ i, D i → D' i) : RowOK F w' p' D' r b o := by
  obtain ⟨c, t, fz, hb, hf, hr, hv⟩ := h.ex
  exact ⟨⟨c, t, fz, hg.cells hb, hf, hr, fun i x j v hx hj => (hv i x j v hx hj).grow hg hold hp hD⟩, h.sz⟩

theorem SRel.grow {F : Nat → Prop} {w w' : World} {p p' : Place} {D D' : Nat → Prop} {rows : List (Nat × Row)} (h : SRel F w p D rows) (hg : Grow w w')
    (hp : ∀ i, D i → p' i = p i) (hD : ∀ i, D i → D' i) : SRel F w' p' D' rows where
  row id r hl := by
    obtain ⟨h1, h2, h3⟩ := h.row id r hl
    rw [hp _ h1]
    exact ⟨hD _ h1, h2, h3.grow hg h.old hp hD⟩
  apart id id' r r' hl hl' hne := by
    rw [hp _ (h.row id r hl).1, hp _ (h.row id' r' hl').1]
    exact h.apart id id' r r' hl hl' hne
  old := h.old.grow hg

/-- An environment against the temporaries. -/
structure ERel (N : Nat) (F : Nat → Prop) (w : World) (p : Place) (D : Nat → Prop) (e : Env) (tmps : Array Value) : Prop where
  size : tmps.size = N
  val : ∀ t, VR F w p D (get e t) (tmps.getD t undef)

end Go.Proofs.YtggmkfagcjdifaaDoor.Ai
namespace Go.Proofs.YtggmkfagcjdifaaDoor.Ai
set_option linter.unusedSimpArgs false
set_option linter.unusedVariables false
set_option linter.unnecessarySimpa false
set_option linter.unusedSectionVars false
set_option linter.unusedVariables false

/-- The fence that lets all by; r: the loop in whose round the code runs, if any. -/
def WI (r : Option Nat) : Fence := { fn := fun _ => True, depth := none, alive := false, round := r }

structure Rel (N : Nat) (F : Nat → Prop) (w : World) (p : Place) (e : Env) (s : Store) (a : Act) : Prop where
  env : ERel N F w p (fun i => i < s.nx) e a.tmps
  sto : SRel F w p (fun i => i < s.nx) s.rows

def RowAt (p : Place) (s : Store) (b : Nat) : Prop := ∃ id r, look s.rows id = some r ∧ (p id).1 = b

structure Evo (n0 : Nat) (F : Nat → Prop) (w : World) (p : Place) (s : Store) (F' : Nat → Prop) (w' : World) (p' : Place) (s' : Store) : Prop where
  os : w'.os = w.os
  tape : w'.tape = w.tape
  output : w'.output = w.output
  size : w.heap.size ≤ w'.heap.size
  same : ∀ b, b < w.heap.size → ¬ RowAt p s b → w'.heap[b]? = w.heap[b]?
  cells : ∀ (b : Nat) (c : Array Value) (t : TypeId) (fz : Nat × Nat), w.heap[b]? = some (Obj.cells c t fz) → ∃ (c' : Array Value) (t' : TypeId) (fz' : Nat × Nat), w'.heap[b]? = some (Obj.cells c' t' fz') ∧ c'.size = c.size
  inF : ∀ b, F b → F' b
  newF : ∀ b, F' b → F b ∨ w.heap.size ≤ b ∨ RowAt p s b
  rows : ∀ b, RowAt p' s' b → w.heap.size ≤ b ∨ RowAt p s b
  keep : ∀ id, id < n0 → p' id = p id
  nx : n0 ≤ s'.nx

theorem Evo.refl {n0 : Nat} {F : Nat → Prop} {w : World} {p : Place} {s : Store} (h : n0 ≤ s.nx) : Evo n0 F w p s F w p s :=
  ⟨rfl, rfl, rfl, Nat.le_refl _, fun _ _ _ => rfl, fun b c t fz h => ⟨c, t, fz, h, rfl⟩, fun _ h => h, fun _ h => .inl h, fun _ h => .inr h, fun _ _ => rfl, h⟩

theorem Evo.trans {n0 : Nat} {F1 F2 F3 : Nat → Prop} {w1 w2 w3 : World} {p1 p2 p3 : Place} {s1 s2 s3 : Store}
    (h : Evo n0 F1 w1 p1 s1 F2 w2 p2 s2) (k : Evo n0 F2 w2 p2 s2 F3 w3 p3 s3) : Evo n0 F1 w1 p1 s1 F3 w3 p3 s3 where
  os := k.os.trans h.os
  tape := k.tape.trans h.tape
  output := k.output.trans h.output
  size := Nat.le_trans h.size k.size
  same b hb hn := by
    rw [k.same b (Nat.lt_of_lt_of_le hb h.size) (fun hr => (h.rows b hr).elim (fun h => by omega) hn), h.same b hb hn]
  cells b c t fz hb := by
    obtain ⟨c', t', fz', h1, h2⟩ := h.cells b c t fz hb
    obtain ⟨c'', t'', fz'', h3, h4⟩ := k.cells b c' t' fz' h1
    exact ⟨c'', t'', fz'', h3, h4.trans h2⟩
  inF b hb := k.inF b (h.inF b hb)
  newF b hb := by
    rcases k.newF b hb with h1 | h1 | h1
    · exact h.newF b h1
    · exact .inr (.inl (Nat.le_trans h.size h1))
    · exact .inr (h.rows b h1)
  rows b hb := by
    rcases k.rows b hb with h1 | h1
    · exact .inl (Nat.le_trans h.size h1)
    · exact h.rows b h1
  keep id hid := (k.keep id hid).trans (h.keep id hid)
  nx := k.nx

theorem Evo.weaken {n0 n1 : Nat} {F1 F2 : Nat → Prop} {w1 w2 : World} {p1 p2 : Place} {s1 s2 : Store} (h : Evo n1 F1 w1 p1 s1 F2 w2 p2 s2) (hn : n0 ≤ n1) :
    Evo n0 F1 w1 p1 s1 F2 w2 p2 s2 :=
  { h with keep := fun id hid => h.keep id (by omega), nx := Nat.le_trans hn h.nx }

/-- What stands apart from the rows reads as it did. -/
theorem VR.evo {n0 : Nat} {F F' : Nat → Prop} {w w' : World} {p p' : Place} {s s' : Store} {D D' : Nat → Prop} {v : AV} {u : Value} (h : VR F w p D v u)
    (hs : SRel F w p (fun i => i < s.nx) s.rows) (k : Evo n0 F w p s F' w' p' s') (hD : ∀ i, D i → i < n0) (hD' : ∀ i, D i → D' i) : VR F' w' p' D' v u :=
  h.mono k.inF (fun b hb => k.same b (hs.old b hb) (fun ⟨id, r, hl, he⟩ => (hs.row id r hl).2.1 (he ▸ hb))) k.cells (fun i hi => k.keep i (hD i hi)) hD'

/-- How code ends, on abstract values. -/
inductive AX where
  | normal
  | ret
  | exit (id : Nat)
  | pan (v : AV)
  deriving Inhabited

inductive ExR (F : Nat → Prop) (w : World) (p : Place) (D : Nat → Prop) : AX → Exit → Prop
  | normal : ExR F w p D .normal .normal
  | ret : ExR F w p D .ret .ret
  | exit (id : Nat) : ExR F w p D (.exit id) (.exit id)
  | pan (v : AV) (u : Value) (h : VR F w p D v u) : ExR F w p D (.pan v) (.panic [{ v := u, recovered := false }])

def Post (P : Program) (N n0 : Nat) (Q : AX → Env → Store → Prop) (F : Nat → Prop) (w : World) (p : Place) (s : Store) (ds : List Deferred) (x : Exit) (a' : Act) (w' : World) : Prop :=
  ∃ F' p' e' s' x', ExR F' w' p' (fun i => i < s'.nx) x' x ∧ Q x' e' s' ∧ Rel N F' w' p' e' s' a' ∧ Evo n0 F w p s F' w' p' s' ∧ a'.defers = ds

def awp (P : Program) (N n0 : Nat) (ro : Option Nat) (c : Code) (Q : AX → Env → Store → Prop) (e : Env) (s : Store) : Prop :=
  ∀ F w p a, n0 ≤ s.nx → Rel N F w p e s a → c.wpIn (WI ro) 0 P (Post P N n0 Q F w p s a.defers) a w

section
variable {P : Program} {N n0 : Nat} {ro : Option Nat} {Q : AX → Env → Store → Prop} {e : Env} {s : Store}

theorem Post.here {F : Nat → Prop} {w : World} {p : Place} {a : Act} {x : AX} {x0 : Exit} (hx : ExR F w p (fun i => i < s.nx) x x0) (h : Q x e s) (hn : n0 ≤ s.nx) (hr : Rel N F w p e s a) : Post P N n0 Q F w p s a.defers x0 a w :=
  ⟨F, p, e, s, x, hx, h, hr, .refl hn, rfl⟩

theorem awp_mono {c : Code} {Q' : AX → Env → Store → Prop} (h : awp P N n0 ro c Q e s) (hq : ∀ x e s, Q x e s → Q' x e s) : awp P N n0 ro c Q' e s :=
  fun F w p a hn hr => Code.wpIn_mono (fun x a w ⟨F', p', e', s', x', h0, h1, h2⟩ => ⟨F', p', e', s', x', h0, hq _ _ _ h1, h2⟩) (h F w p a hn hr)

theorem awp_skip (h : Q .normal e s) : awp P N n0 ro .skip Q e s := fun F w p a hn hr => wpIn_skip (.here .normal h hn hr)
theorem awp_ret (h : Q .ret e s) : awp P N n0 ro .ret Q e s := fun F w p a hn hr => wpIn_ret (.here .ret h hn hr)
theorem awp_exit {id : Nat} (h : Q (.exit id) e s) : awp P N n0 ro (.exit id) Q e s := fun F w p a hn hr => wpIn_exit (.here (.exit id) h hn hr)

def thn (K : Env → Store → Prop) (Q : AX → Env → Store → Prop) : AX → Env → Store → Prop
  | .normal, e, s => K e s
  | x, e, s => Q x e s

theorem awp_seq {c d : Code} (h : awp P N n0 ro c (thn (awp P N n0 ro d Q) Q) e s) : awp P N n0 ro (.seq c d) Q e s := by
  intro F w p a hn hr
  refine wpIn_seq (Code.wpIn_mono ?_ (h F w p a hn hr))
  intro x a1 w1 hp
  obtain ⟨F1, p1, e1, s1, x1, h0, h1, h2, h3, h4⟩ := hp
  cases h0 <;> try exact ⟨F1, p1, e1, s1, _, by constructor <;> assumption, h1, h2, h3, h4⟩
  refine Code.wpIn_mono ?_ (h1 F1 w1 p1 a1 h3.nx h2)
  rintro x a2 w2 ⟨F2, p2, e2, s2, x2, k0, k1, k2, k3, k4⟩
  exact ⟨F2, p2, e2, s2, x2, k0, k1, k2, h3.trans k3, k4.trans h4⟩

def blk (id : Nat) (Q : AX → Env → Store → Prop) : AX → Env → Store → Prop
  | .exit i, e, s => bif i == id then Q .normal e s else Q (.exit i) e s
  | x, e, s => Q x e s

theorem awp_block {id : Nat} {c : Code} (h : awp P N n0 ro c (blk id Q) e s) : awp P N n0 ro (.block id c) Q e s := by
  intro F w p a hn hr
  refine wpIn_block (Code.wpIn_mono ?_ (h F w p a hn hr))
  intro x a1 w1 hp
  obtain ⟨F1, p1, e1, s1, x1, h0, h1, h2, h3, h4⟩ := hp
  cases h0 <;> try exact ⟨F1, p1, e1, s1, _, by constructor <;> assumption, h1, h2, h3, h4⟩
  rename_i i
  by_cases hi : i = id
  · subst hi
    simp only [Exit.inBlock, if_true]
    exact ⟨F1, p1, e1, s1, .normal, .normal, by simpa [blk] using h1, h2, h3, h4⟩
  · simp only [Exit.inBlock, if_neg hi]
    exact ⟨F1, p1, e1, s1, .exit i, .exit i, by simpa [blk, hi] using h1, h2, h3, h4⟩

/-- One state stands for another: what is forgotten, or no longer written. -/
def Wk (n0 : Nat) (e : Env) (s : Store) (e' : Env) (s' : Store) : Prop :=
  ∀ N F w p a, n0 ≤ s.nx → Rel N F w p e s a → ∃ F' p', Rel N F' w p' e' s' a ∧ Evo n0 F w p s F' w p' s'

theorem Wk.refl : Wk n0 e s e s := fun N F w p a hn hr => ⟨F, p, hr, .refl hn⟩
theorem Wk.trans {e1 e2 : Env} {s1 s2 : Store} (h : Wk n0 e s e1 s1) (k : Wk n0 e1 s1 e2 s2) : Wk n0 e s e2 s2 := by
  intro N F w p a hn hr
  obtain ⟨F1, p1, h1, h2⟩ := h N F w p a hn hr
  obtain ⟨F2, p2, h3, h4⟩ := k N F1 w p1 a h2.nx h1
  exact ⟨F2, p2, h3, h2.trans h4⟩

theorem awp_wk {c : Code} {e' : Env} {s' : Store} (hw : Wk n0 e s e' s') (h : awp P N n0 ro c Q e' s') : awp P N n0 ro c Q e s := by
  intro F w p a hn hr
  obtain ⟨F1, p1, h1, h2⟩ := hw N F w p a hn hr
  refine Code.wpIn_mono ?_ (h F1 w p1 a h2.nx h1)
  rintro x a2 w2 ⟨F2, p2, e2, s2, x2, k0, k1, k2, k3, k4⟩
  exact ⟨F2, p2, e2, s2, x2, k0, k1, k2, h2.trans k3, k4⟩

theorem least (q : Nat → Prop) (h : ∃ n, q n) : ∃ n, q n ∧ ∀ m, q m → n ≤ m := by
  obtain ⟨n, hn⟩ := h
  induction n using Nat.strongRecOn with
  | _ n ih =>
    by_cases hm : ∃ m, m < n ∧ q m
    · obtain ⟨m, hlt, hq⟩ := hm; exact ih m hlt hq
    · exact ⟨n, hn, fun m hq => Nat.le_of_not_lt fun hlt => hm ⟨m, hlt, hq⟩⟩

open Classical in
theorem awp_loop {c : Code} (I : Env → Store → Prop) (μ : Env → Store → Nat) (h0 : I e s)
    (round : ∀ e s, I e s → awp P N n0 ro c (thn (fun e' s' => ∃ e'' s'', Wk n0 e' s' e'' s'' ∧ I e'' s'' ∧ μ e'' s'' < μ e s) Q) e s) : awp P N n0 ro (.loop c) Q e s := by
  intro F w p a hn hr
  let J (n : Nat) (a' : Act) (w' : World) : Prop := ∃ F' p' e' s', I e' s' ∧ μ e' s' = n ∧ Rel N F' w' p' e' s' a' ∧ Evo n0 F w p s F' w' p' s' ∧ a'.defers = a.defers
  let M (a' : Act) (w' : World) : Nat := if h : ∃ n, J n a' w' then Classical.choose (least _ h) else 0
  have hM : ∀ a' w' n, J n a' w' → J (M a' w') a' w' ∧ M a' w' ≤ n := by
    intro a' w' n hJ
    have hx : ∃ n, J n a' w' := ⟨n, hJ⟩
    have hc := Classical.choose_spec (least _ hx)
    simp only [M, dif_pos hx]
    exact ⟨hc.1, hc.2 n hJ⟩
  refine wpIn_loop (fun a' w' => ∃ n, J n a' w') M ⟨_, F, p, e, s, h0, rfl, hr, .refl hn, rfl⟩ ?_
  rintro a1 w1 ⟨n, hJ⟩
  obtain ⟨⟨F1, p1, e1, s1, h1, h2, h3, h4, h5⟩, hle⟩ := hM a1 w1 n hJ
  refine Code.wpIn_mono ?_ (round e1 s1 h1 F1 w1 p1 a1 h4.nx h3)
  rintro x a2 w2 ⟨F2, p2, e2, s2, x2, k0, k1, k2, k3, k4⟩
  cases k0 <;> try exact ⟨F2, p2, e2, s2, _, by constructor <;> assumption, k1, k2, h4.trans k3, k4.trans h5⟩
  obtain ⟨e3, s3, hw, hI, hlt⟩ := k1
  obtain ⟨F3, p3, l1, l2⟩ := hw N F2 w2 p2 a2 k3.nx k2
  have hJ3 : J (μ e3 s3) a2 w2 := ⟨F3, p3, e3, s3, hI, rfl, l1, (h4.trans k3).trans l2, k4.trans h5⟩
  exact ⟨⟨_, hJ3⟩, Nat.lt_of_le_of_lt (hM a2 w2 _ hJ3).2 (h2 ▸ hlt)⟩
end
end Go.Proofs.YtggmkfagcjdifaaDoor.Ai
namespace Go.Proofs.YtggmkfagcjdifaaDoor.Ai
set_option linter.unusedSimpArgs false
set_option linter.unusedVariables false
set_option linter.unnecessarySimpa false
set_option linter.unusedSectionVars false
set_option linter.unusedVariables false

def mapO {α β : Type} (f : α → Option β) : List α → Option (List β)
  | [] => some []
  | x :: l => match f x, mapO f l with
    | some a, some b => some (a :: b)
    | _, _ => none

theorem mapO_some {α β : Type} {f : α → Option β} : ∀ {l : List α} {r : List β}, mapO f l = some r → r.length = l.length ∧ ∀ (j : Nat) (x : α), l[j]? = some x → ∃ y, f x = some y ∧ r[j]? = some y
  | [], r, h => by simp only [mapO, Option.some.injEq] at h; subst h; simp
  | x :: l, r, h => by
    simp only [mapO] at h
    split at h
    · rename_i a b ha hb
      simp only [Option.some.injEq] at h; subst h
      obtain ⟨h1, h2⟩ := mapO_some hb
      refine ⟨by simp [h1], fun j y hj => ?_⟩
      cases j with
      | zero => simp at hj; subst hj; exact ⟨a, ha, by simp⟩
      | succ j => simpa using h2 j y (by simpa using hj)
    · cases h

inductive Opd where
  | t (n : Nat)
  | c (v : AV)
  | f (id : FuncId)
  | g (n : Nat)
  deriving Inhabited

/-- A cell, n times: long arrays are not laid out. -/
@[irreducible] def rep (n : Nat) (v : AV) : List AV := List.replicate n v
theorem rep_len {n : Nat} {v : AV} : (rep n v).length = n := by unfold rep; simp

def gcells (n : Nat) : List AV :=
  match gtab.find? fun x => x.1 == n with
  | some x => x.2
  | none => []

def ofVal0 : Value → Option AV
  | .bool b => some (.bool b)
  | .int k n => some (.int k n)
  | .string s => some (.str s)
  | .pointer none => some .nilp
  | .slice none 0 0 => some .nils
  | .nilFunc => some .nilf
  | .nilIface => some .nili
  | .map none => some .nilm
  | _ => none
def ofVal : Value → Option AV
  | .agg cs => (mapO ofVal0 cs.toList).map .agg
  | v => ofVal0 v

def opd : Operand → Option Opd
  | .tmp t => some (.t t)
  | .const v => (ofVal v).map .c
  | .func f => some (.f f)
  | .global g => bif gtab.any fun x => x.1 == g then some (.g g) else none
def ev (e : Env) : Opd → AV
  | .t n => get e n
  | .c v => v
  | .f id => .fn (.func id) [] []
  | .g n => .rop (gcells n)

/-- An operand's value: what a guard has let through. -/
def AV.strip : AV → AV
  | .opt _ v => v.strip
  | v => v
def AV.live : AV → Prop
  | .opt t v => t = true ∧ v.live
  | _ => True

inductive SK where
  | b
  | i (k : IntKind)
  | s
  deriving Inhabited

inductive ROp where
  | mv (x : Opd)
  | pick (c a b : Opd)
  | nc (x : Opd)
  | alloc (z : List AV)
  | box (x : Opd)
  | build (z : List AV) (ps : List (Nat × Nat × Opd))
  | bslice (sz n : Nat) (z : List AV) (ps : List (Nat × Opd))
  | ld (agg : Bool) (sz : Nat) (x : Opd)
  | fa (off : Nat) (x : Opd)
  | fd (off : Nat) (agg : Bool) (sz : Nat) (x : Opd)
  | ias (sz : Nat) (x i : Opd)
  | iaa (len sz : Nat) (x i : Opd)
  | ixa (len sz : Nat) (agg : Bool) (x i : Opd)
  | ixs (x i : Opd)
  | ext (x : Opd) (i : Nat)
  | bin (op : BinOp) (x y : Opd)
  | eqb (neg : Bool) (x y : Opd)
  | eqn (neg : Bool) (x y : Opd)
  | not (x : Opd)
  | neg (x : Opd)
  | cv (k : IntKind) (x : Opd)
  | b2s (x : Opd)
  | s2b (x : Opd)
  | mkf (f : FuncId) (xs ys : List Opd)
  | mki (t : TypeId) (x : Opd)
  | len (x : Opd)
  | lens (x : Opd)
  | cap (x : Opd)
  | max2 (x y : Opd)
  | min2 (x y : Opd)
  | slc (sz : Nat) (x : Opd) (lo hi : Option Opd)
  | sls (x : Opd) (lo hi : Option Opd)
  | mks (sz bytes : Nat) (z : List AV) (n c : Opd)
  | st (sz : Nat) (a x : Opd)
  | app (sz bytes : Nat) (z : List AV) (x y : Opd)
  | eqv (neg : Bool) (l : List (Nat × SK)) (x y : Opd)
  | cal (f : FuncId) (xs : List Opd)
  | cav (f : Opd) (xs : List Opd)
  | pan (x : Opd)
  | tas (t : TypeId) (x : Opd)
  | eqi (neg : Bool) (x : Opd)
  | sla (n : Nat) (x : Opd) (lo hi : Option Opd)
  | cpy (x y : Opd)
  | bnot (x : Opd)
  deriving Inhabited

structure RO where
  dst : Option Nat
  guard : Option (Nat × Bool)
  op : ROp
  deriving Inhabited

section lite
variable (P : Program)

def zeroOf (t : TypeId) : Option (List AV) := ((P.info? t).bind (·.zero)).bind fun z => mapO ofVal0 z.cells.toList
def sizeAt (t : TypeId) : Option Nat := (P.info? t).map (·.size)
def isAggT (t : TypeId) : Option Bool := (P.underlying t).map fun | .struct _ | .array _ _ => true | _ => false
def optOpd : Option Operand → Option (Option Opd)
  | none => some none
  | some x => (opd x).map some

def liteB (b : Builtin) (ats : Array TypeId) (xs : List Operand) : Option ROp :=
  match b with
  | .len => match xs with
    | [x] => (opd x).bind fun x => match (ats[0]?).bind P.underlying with
      | some (.slice _) => some (.len x)
      | some .string => some (.lens x)
      | _ => none
    | _ => none
  | .cap => match xs with
    | [x] => (opd x).bind fun x => match (ats[0]?).bind P.underlying with
      | some (.slice _) => some (.cap x)
      | _ => none
    | _ => none
  | .max => match xs with
    | [x, y] => (opd x).bind fun x => (opd y).bind fun y => some (.max2 x y)
    | _ => none
  | .min => match xs with
    | [x, y] => (opd x).bind fun x => (opd y).bind fun y => some (.min2 x y)
    | _ => none
  | .append => match xs with
    | [x, y] => (opd x).bind fun x => (opd y).bind fun y => match (ats[0]?).bind P.underlying, (ats[1]?).bind P.underlying with
      | some (.slice e), some (.slice _) => (P.info? e).bind fun i => (zeroOf P e).bind fun z => some (.app i.size i.bytes z x y)
      | _, _ => none
    | _ => none
  | _ => none

def liteCall (c : Call) : Option ROp :=
  match c.callee with
  | .value f => match f with
    | .func f => (mapO opd c.args.toList).map (.cal f)
    | .tmp t => (mapO opd c.args.toList).map (.cav (.t t))
    | _ => none
  | .builtin b => liteB P b c.argTypes c.args.toList
  | _ => none

def liteOp (o : Op) : Option ROp :=
  match o with
  | .move x | .assign x => do some (.mv (← opd x))
  | .pick c a b => do some (.pick (← opd c) (← opd a) (← opd b))
  | .nilCheck x => do some (.nc (← opd x))
  | .alloc t => do some (.alloc (← zeroOf P t))
  | .box _ x => do some (.box (← opd x))
  | .load t x => do
    let g ← isAggT P t
    let s ← sizeAt P t
    if g || s == 1 then some (.ld g s (← opd x)) else none
  | .store t a x => do some (.st (← sizeAt P t) (← opd a) (← opd x))
  | .fieldAddr s x f =>
    match P.underlying s with
    | some (.struct fs) => do
      let fl ← fs[f]?
      let n ← sizeAt P fl.type
      if n = 0 then none else some (.fa fl.offset (← opd x))
    | _ => none
  | .field s x f =>
    match P.underlying s with
    | some (.struct fs) => do
      let fl ← fs[f]?
      let n ← sizeAt P fl.type
      let g ← isAggT P fl.type
      if g || n == 1 then some (.fd fl.offset g n (← opd x)) else none
    | _ => none
  | .indexAddr t x i =>
    match P.underlying t with
    | some (.slice e) => do some (.ias (← sizeAt P e) (← opd x) (← opd i))
    | some (.array n e) => do some (.iaa n (← sizeAt P e) (← opd x) (← opd i))
    | _ => none
  | .index t x i =>
    match P.underlying t with
    | some (.array n e) => do
      let s ← sizeAt P e
      let g ← isAggT P e
      if g || s == 1 then some (.ixa n s g (← opd x) (← opd i)) else none
    | some .string => do some (.ixs (← opd x) (← opd i))
    | _ => none
  | .extract x i => do some (.ext (← opd x) i)
  | .binOp op t x y _ =>
    match P.underlying t, op with
    | some .bool, .eql => do some (.eqb false (← opd x) (← opd y))
    | some .bool, .neq => do some (.eqb true (← opd x) (← opd y))
    | some (.slice _), .eql => do some (.eqn false (← opd x) (← opd y))
    | some (.slice _), .neq => do some (.eqn true (← opd x) (← opd y))
    | some (.int _), op => do some (.bin op (← opd x) (← opd y))
    | some .string, op => do some (.bin op (← opd x) (← opd y))
    | _, _ => none
  | .unOp .not _ x => do some (.not (← opd x))
  | .unOp .neg _ x => do some (.neg (← opd x))
  | .unOp .xor _ x => do some (.bnot (← opd x))
  | .convert s d x => do
    let x ← opd x
    match P.underlying s, P.underlying d with
    | some (.int _), some (.int k) => some (.cv k x)
    | some (.slice e), some .string => if P.underlying e matches some (.int .u8) then some (.b2s x) else none
    | some .string, some (.slice e) => if P.underlying e matches some (.int .u8) then some (.s2b x) else none
    | _, _ => none
  | .makeFunc (.func f) xs ys => do some (.mkf f (← mapO opd xs.toList) (← mapO opd ys.toList))
  | .makeInterface t x => do
    match P.underlying t with
    | some (.interface _) => none
    | some _ => some (.mki t (← opd x))
    | none => none
  | .slice t x lo hi none =>
    match P.underlying t with
    | some (.slice e) => do some (.slc (← sizeAt P e) (← opd x) (← optOpd lo) (← optOpd hi))
    | some .string => do some (.sls (← opd x) (← optOpd lo) (← optOpd hi))
    | some (.array n e) => do
      let s ← sizeAt P e
      if s == 1 then some (.sla n (← opd x) (← optOpd lo) (← optOpd hi)) else none
    | _ => none
  | .makeSlice t n c =>
    match P.underlying t with
    | some (.slice e) => do
      let i ← P.info? e
      some (.mks i.size i.bytes (← zeroOf P e) (← opd n) (← opd c))
    | _ => none
  | .build t ps => do
    let z ← zeroOf P t
    match P.underlying t with
    | some (.struct fs) => do
      let _ ← mapO (fun f => sizeAt P f.type) fs.toList
      let ps ← mapO (fun (i, x) => do
        let f ← fs[i]?
        some (f.offset, ← sizeAt P f.type, ← opd x)) ps.toList
      some (.build z ps)
    | some (.array _ e) => do
      let s ← sizeAt P e
      let ps ← mapO (fun (i, x) => do some (i * s, s, ← opd x)) ps.toList
      some (.build z ps)
    | _ => none
  | .buildSlice t n ps =>
    match P.underlying t with
    | some (.slice e) => do
      let s ← sizeAt P e
      let z ← zeroOf P e
      let ps ← mapO (fun (i, x) => do some (i, ← opd x)) ps.toList
      some (.bslice s n z ps)
    | _ => none
  | .call c => liteCall P c
  | _ => none

inductive RC where
  | skip
  | ret
  | exit (id : Nat)
  | seq (a b : RC)
  | cond (c : Opd) (a b : RC)
  | block (id : Nat) (b : RC)
  | loop (b : RC)
  | reg (p : Option Nat) (ops : List RO)
  deriving Inhabited
end lite
end Go.Proofs.YtggmkfagcjdifaaDoor.Ai
namespace Go.Proofs.YtggmkfagcjdifaaDoor.Ai
set_option linter.unusedSimpArgs false
set_option linter.unusedVariables false
set_option linter.unnecessarySimpa false
set_option linter.unusedSectionVars false
set_option linter.unusedVariables false

abbrev Rows := List (Nat × Row)

def sv (e : Env) (x : Opd) : AV := (ev e x).strip
def lv (e : Env) (x : Opd) : Prop := (ev e x).live

def rdc (rows : Rows) : AV → Nat → Prop
  | .rop cs, sz => sz ≤ cs.length
  | .pt id q i off, sz => match look rows id with
    | some r => bif r.sz == q then (i < r.es.length ∧ off + sz ≤ q) else i * q + off + sz ≤ r.es.flatten.length
    | none => False
  | _, _ => False
def rdv (rows : Rows) : AV → Nat → List AV
  | .rop cs, sz => cs.take sz
  | .pt id q i off, sz => match look rows id with
    | some r => bif r.sz == q then ((r.es.getD i []).drop off).take sz else (r.es.flatten.drop (i * q + off)).take sz
    | none => []
  | _, _ => []

def AV.known : AV → Prop
  | .any => False
  | .opt _ _ => False
  | _ => True

def sel (t : Bool) : AV → AV → AV
  | .bool p, .bool q => .bool (bif t then p else q)
  | x, y => bif t then x else y

def splice (cs : List AV) (off : Nat) (part : List AV) : List AV := cs.take off ++ part ++ cs.drop (off + part.length)

def intC (op : BinOp) (k k' : IntKind) (b : Int) : Prop :=
  match op with
  | .shl | .shr => 0 ≤ b
  | .quo | .rem => k = k' ∧ b ≠ 0
  | _ => k = k'
def bits2 (k : IntKind) (r : BitVec k.bits) : AV := .int k (k.wrap r.toNat)
def intV (op : BinOp) (k : IntKind) (a b : Int) : AV :=
  match op with
  | .add => .int k (k.wrap (a + b))
  | .sub => .int k (k.wrap (a - b))
  | .mul => .int k (k.wrap (a * b))
  | .quo => .int k (k.wrap (a.tdiv b))
  | .rem => .int k (a.tmod b)
  | .and => bits2 k (BitVec.ofInt k.bits a &&& BitVec.ofInt k.bits b)
  | .or => bits2 k (BitVec.ofInt k.bits a ||| BitVec.ofInt k.bits b)
  | .xor => bits2 k (BitVec.ofInt k.bits a ^^^ BitVec.ofInt k.bits b)
  | .andNot => bits2 k (BitVec.ofInt k.bits a &&& ~~~ BitVec.ofInt k.bits b)
  | .shl => .int k (k.wrap (a * 2 ^ (min b.toNat k.bits)))
  | .shr => .int k (a.fdiv (2 ^ (min b.toNat k.bits)))
  | .eql => .bool (a == b)
  | .neq => .bool (a != b)
  | .lss => .bool (decide (a < b))
  | .leq => .bool (decide (a ≤ b))
  | .gtr => .bool (decide (a > b))
  | .geq => .bool (decide (a ≥ b))
def strC (op : BinOp) (a b : ByteArray) : Prop :=
  match op with
  | .add => ((a.size + b.size : Nat) : Int) ≤ IntKind.i64.max
  | .eql | .neq | .lss | .leq | .gtr | .geq => True
  | _ => False
def strV (op : BinOp) (a b : ByteArray) : AV :=
  match op with
  | .add => .str (a ++ b)
  | .eql => .bool (a.toList == b.toList)
  | .neq => .bool !(a.toList == b.toList)
  | .lss => .bool (Op.bytesLess a.toList b.toList)
  | .leq => .bool (Op.bytesLess a.toList b.toList || a.toList == b.toList)
  | .gtr => .bool !(Op.bytesLess a.toList b.toList || a.toList == b.toList)
  | .geq => .bool !(Op.bytesLess a.toList b.toList)
  | _ => .any
def binC (op : BinOp) : AV → AV → Prop
  | .int k a, .int k' b => intC op k k' b
  | .str a, .str b => strC op a b
  | _, _ => False
def binV (op : BinOp) : AV → AV → AV
  | .int k a, .int _ b => intV op k a b
  | .str a, .str b => strV op a b
  | _, _ => .any

/-- Is a slice nil? -/
def nilC : AV → Prop
  | .nils | .roe _ => True
  | .ros _ es => es ≠ []
  | .sl _ _ _ n k => 0 < n ∨ ∃ m, k = some (m + 1)
  | _ => False
def nilV : AV → Bool
  | .nils => true
  | _ => false

def byteOf : AV → UInt8
  | .int _ n => UInt8.ofNat n.toNat
  | _ => 0
def isByte : AV → Prop
  | .int .u8 _ => True
  | _ => False

/-- A slice's elements (of an immutable one, of a row's part). -/
def elsC (rows : Rows) (sz : Nat) : AV → Prop
  | .ros q _ => q = sz
  | .nils => True
  | .roe _ => True
  | .sl id q i n _ => match look rows id with
    | some r => bif r.sz == q then (q = sz ∧ i + n ≤ r.es.length) else (q = 1 ∧ sz = 1 ∧ i + n ≤ r.es.flatten.length)
    | none => False
  | _ => False
def elsV (rows : Rows) : AV → List (List AV)
  | .ros _ es => es
  | .sl id q i n _ => match look rows id with
    | some r => bif r.sz == q then (r.es.drop i).take n else ((r.es.flatten.drop i).take n).map fun c => [c]
    | none => []
  | _ => []

def bound (e : Env) (d : Nat) : Option Opd → AV
  | none => .int .i64 d
  | some x => sv e x
def boundL (e : Env) : Option Opd → Prop
  | none => True
  | some x => lv e x

def sliceC (n : Nat) : AV → AV → Prop
  | .int _ l, .int _ h => 0 ≤ l ∧ l ≤ h ∧ h ≤ n
  | _, _ => False
def lenV : AV → Int
  | .ros _ es => es.length
  | .sl _ _ _ n _ => n
  | _ => 0
def lenC : AV → Prop
  | .ros _ _ | .sl _ _ _ _ _ | .nils | .roe _ => True
  | _ => False
def intOr : AV → Int
  | .int _ n => n
  | _ => 0

def partsC (e : Env) (n : Nat) : List (Nat × Nat × Opd) → Prop
  | [] => True
  | (off, sz, x) :: l => (lv e x ∧ (sv e x).known ∧ (sv e x).cells.length = sz ∧ off + sz ≤ n) ∧ partsC e n l
def partsV (e : Env) : List AV → List (Nat × Nat × Opd) → List AV
  | cs, [] => cs
  | cs, (off, _, x) :: l => partsV e (splice cs off (sv e x).cells) l
def elemsC (e : Env) (sz n : Nat) : List (Nat × Opd) → Prop
  | [] => True
  | (i, x) :: l => (lv e x ∧ (sv e x).known ∧ (sv e x).cells.length = sz ∧ i < n) ∧ elemsC e sz n l
def elemsV (e : Env) : List (List AV) → List (Nat × Opd) → List (List AV)
  | es, [] => es
  | es, (i, x) :: l => elemsV e (es.set i (sv e x).cells) l
def allLv (e : Env) : List Opd → Prop
  | [] => True
  | x :: l => lv e x ∧ allLv e l

def ncC : AV → Prop
  | .rop _ | .pt _ _ _ _ | .fn (.func _) _ _ => True
  | _ => False
def pickC (e : Env) (a b : Opd) : AV → Prop
  | .bool t => (t = true → lv e a) ∧ (t = false → lv e b)
  | _ => False
def pickV (e : Env) (a b : Opd) : AV → AV
  | .bool t => sel t (sv e a) (sv e b)
  | _ => .any
def faC (off : Nat) : AV → Prop
  | .rop cs => off ≤ cs.length
  | .pt _ _ _ _ => True
  | _ => False
def faV (off : Nat) : AV → AV
  | .rop cs => .rop (cs.drop off)
  | .pt id q i o => .pt id q i (o + off)
  | _ => .any
def partV (g : Bool) (off sz : Nat) (cs : List AV) : AV := bif g then .agg ((cs.drop off).take sz) else (cs.drop off).headD .any
def fdC (off sz : Nat) : AV → Prop
  | .agg cs => off + sz ≤ cs.length
  | _ => False
def fdV (off : Nat) (g : Bool) (sz : Nat) : AV → AV
  | .agg cs => partV g off sz cs
  | _ => .any
def iasC (sz : Nat) : AV → AV → Prop
  | .ros q es, .int _ n => q = sz ∧ 0 ≤ n ∧ n < es.length
  | .sl _ q _ m _, .int _ n => q = sz ∧ 0 ≤ n ∧ n < m
  | _, _ => False
def iasV : AV → AV → AV
  | .ros _ es, .int _ n => .rop (es.getD n.toNat [])
  | .sl id q j _ _, .int _ n => .pt id q (j + n.toNat) 0
  | _, _ => .any
def iaaC (len sz : Nat) : AV → AV → Prop
  | .rop cs, .int _ n => 0 ≤ n ∧ n < len ∧ n.toNat * sz ≤ cs.length
  | .pt _ _ _ _, .int _ n => 0 ≤ n ∧ n < len
  | _, _ => False
def iaaV (sz : Nat) : AV → AV → AV
  | .rop cs, .int _ n => .rop (cs.drop (n.toNat * sz))
  | .pt id q j o, .int _ n => .pt id q j (o + n.toNat * sz)
  | _, _ => .any
def ixaC (len sz : Nat) : AV → AV → Prop
  | .agg cs, .int _ n => 0 ≤ n ∧ n < len ∧ n.toNat * sz + sz ≤ cs.length
  | _, _ => False
def ixaV (sz : Nat) (g : Bool) : AV → AV → AV
  | .agg cs, .int _ n => partV g (n.toNat * sz) sz cs
  | _, _ => .any
def ixsC : AV → AV → Prop
  | .str s, .int _ n => 0 ≤ n ∧ n < s.size
  | _, _ => False
def ixsV : AV → AV → AV
  | .str s, .int _ n => .int .u8 ((s.data.toList.getD n.toNat 0).toNat : Int)
  | _, _ => .any
def extC (i : Nat) : AV → Prop
  | .tup vs => i < vs.length
  | _ => False
def extV (i : Nat) : AV → AV
  | .tup vs => vs.getD i .any
  | _ => .any
def boolC : AV → Prop
  | .bool _ => True
  | _ => False
def intIs : AV → Prop
  | .int _ _ => True
  | _ => False
def strIs : AV → Prop
  | .str _ => True
  | _ => False
def nilsIs : AV → Prop
  | .nils => True
  | _ => False
def eqbV (g : Bool) : AV → AV → AV
  | .bool a, .bool b => .bool (bif g then !(a == b) else (a == b))
  | _, _ => .any
def notV : AV → AV
  | .bool b => .bool !b
  | _ => .any
def negV : AV → AV
  | .int k n => .int k (k.wrap (0 - n))
  | _ => .any
def cvV (k : IntKind) : AV → AV
  | .int _ n => .int k (k.wrap n)
  | _ => .any
def s2bV (k : Nat) : AV → AV
  | .str s => .sl k 1 0 s.size none
  | _ => .any
def s2bR : AV → Option Row
  | .str s => some ⟨1, s.data.toList.map fun b => [.int .u8 (b.toNat : Int)]⟩
  | _ => none
def lensV : AV → AV
  | .str s => .int .i64 s.size
  | _ => .any
def capC : AV → Prop
  | .nils => True
  | .sl _ _ _ _ (some _) => True
  | _ => False
def capV : AV → AV
  | .nils => .int .i64 0
  | .sl _ _ _ _ (some m) => .int .i64 m
  | _ => .any
def maxV : AV → AV → AV
  | .int k a, .int _ b => .int k (if b > a then b else a)
  | _, _ => .any
def minV : AV → AV → AV
  | .int k a, .int _ b => .int k (if b < a then b else a)
  | _, _ => .any
def slcSz (sz : Nat) : AV → Prop
  | .ros q _ | .sl _ q _ _ _ => q = sz
  | _ => True
def slsC (e : Env) (lo hi : Option Opd) : AV → Prop
  | .str s => sliceC s.size (bound e 0 lo) (bound e s.size hi)
  | _ => False
def slsV (e : Env) (lo hi : Option Opd) : AV → AV
  | .str s => .str (s.extract (intOr (bound e 0 lo)).toNat (intOr (bound e s.size hi)).toNat)
  | _ => .any
def mksC (bytes : Nat) : AV → AV → Prop
  | .int _ a, .int _ b => 0 ≤ a ∧ a ≤ b ∧ b * bytes ≤ 2 ^ 47 ∧ b < 2 ^ 63
  | _, _ => False
def sliceV (k : AV) (l h : Nat) : AV :=
  match k with
  | .ros q es => .ros q ((es.drop l).take (h - l))
  | .sl id q i n c => .sl id q (i + l) (h - l) (match c with
    | some m => some (m - l)
    | none => none)
  | v => v

def skC : SK → AV → Prop
  | .b, .bool _ => True
  | .i k, .int k' _ => k = k'
  | .s, .str _ => True
  | _, _ => False
def skE : AV → AV → Bool
  | .bool a, .bool b => a == b
  | .int _ a, .int _ b => a == b
  | .str a, .str b => a.toList == b.toList
  | _, _ => false
def eqvC : List (Nat × SK) → List AV → List AV → Prop
  | [], _, _ => True
  | (o, k) :: l, cs, ds => (o < cs.length ∧ o < ds.length ∧ skC k (cs.getD o .any) ∧ skC k (ds.getD o .any)) ∧ eqvC l cs ds
def eqvV : List (Nat × SK) → List AV → List AV → Bool
  | [], _, _ => true
  | (o, k) :: l, cs, ds => skE (cs.getD o .any) (ds.getD o .any) && eqvV l cs ds
def eqaC (l : List (Nat × SK)) : AV → AV → Prop
  | .agg cs, .agg ds => eqvC l cs ds
  | _, _ => False
def eqaV (g : Bool) (l : List (Nat × SK)) : AV → AV → AV
  | .agg cs, .agg ds => .bool (bif g then !(eqvV l cs ds) else eqvV l cs ds)
  | _, _ => .any

def tasC (t : TypeId) : AV → Prop
  | .ifc t' _ => t' = t
  | _ => False
def tasV : AV → AV
  | .ifc _ v => v
  | _ => .any
def ifcIs : AV → Prop
  | .ifc _ _ | .nili => True
  | _ => False
def niliV : AV → Bool
  | .nili => true
  | _ => false

/-- A part of an array in a variable, as a slice. -/
def slaC (rows : Rows) (n : Nat) : AV → Prop
  | .rop cs => n ≤ cs.length
  | .pt id q i off => match look rows id with
    | some r => r.sz = q ∧ i < r.es.length ∧ off + n ≤ q
    | none => False
  | _ => False
def slaV (n : Nat) (l h : Nat) : AV → AV
  | .rop cs => .ros 1 (((cs.drop l).take (h - l)).map fun c => [c])
  | .pt id q i off => .sl id 1 (i * q + off + l) (h - l) (some (n - l))
  | _ => .any
def bnotV : AV → AV
  | .int k n => intV .xor k (if k.signed then -1 else k.max) n
  | _ => .any

def pcond (e : Env) (rows : Rows) : ROp → Prop
  | .mv _ => True
  | .pick c a b => lv e c ∧ pickC e a b (sv e c)
  | .nc x => lv e x ∧ ncC (sv e x)
  | .alloc _ => True
  | .box x => lv e x ∧ (sv e x).known
  | .build z ps => partsC e z.length ps
  | .bslice sz n z ps => z.length = sz ∧ n * sz ≤ 2 ^ 24 ∧ elemsC e sz n ps
  | .ld _ sz x => lv e x ∧ rdc rows (sv e x) sz
  | .fa off x => lv e x ∧ faC off (sv e x)
  | .fd off _ sz x => lv e x ∧ fdC off sz (sv e x)
  | .ias sz x i => lv e x ∧ lv e i ∧ iasC sz (sv e x) (sv e i)
  | .iaa len sz x i => lv e x ∧ lv e i ∧ iaaC len sz (sv e x) (sv e i)
  | .ixa len sz _ x i => lv e x ∧ lv e i ∧ ixaC len sz (sv e x) (sv e i)
  | .ixs x i => lv e x ∧ lv e i ∧ ixsC (sv e x) (sv e i)
  | .ext x i => lv e x ∧ extC i (sv e x)
  | .bin op x y => lv e x ∧ lv e y ∧ binC op (sv e x) (sv e y)
  | .eqb _ x y => lv e x ∧ lv e y ∧ boolC (sv e x) ∧ boolC (sv e y)
  | .eqv _ l x y => lv e x ∧ lv e y ∧ eqaC l (sv e x) (sv e y)
  | .eqn _ x y => lv e x ∧ lv e y ∧ nilC (sv e x) ∧ nilsIs (sv e y)
  | .not x => lv e x ∧ boolC (sv e x)
  | .neg x => lv e x ∧ intIs (sv e x)
  | .cv _ x => lv e x ∧ intIs (sv e x)
  | .b2s x => lv e x ∧ elsC rows 1 (sv e x) ∧ ∀ c ∈ elsV rows (sv e x), ∃ v, c = [v] ∧ isByte v
  | .s2b x => lv e x ∧ strIs (sv e x)
  | .mkf _ xs ys => allLv e xs ∧ allLv e ys
  | .mki _ x => lv e x
  | .len x => lv e x ∧ lenC (sv e x)
  | .lens x => lv e x ∧ strIs (sv e x)
  | .cap x => lv e x ∧ capC (sv e x)
  | .max2 x y | .min2 x y => lv e x ∧ lv e y ∧ intIs (sv e x) ∧ intIs (sv e y)
  | .slc sz x lo hi => lv e x ∧ boundL e lo ∧ boundL e hi ∧ lenC (sv e x) ∧ slcSz sz (sv e x) ∧ sliceC (lenV (sv e x)).toNat (bound e 0 lo) (bound e (lenV (sv e x)).toNat hi)
  | .sls x lo hi => lv e x ∧ boundL e lo ∧ boundL e hi ∧ slsC e lo hi (sv e x)
  | .mks sz bytes z n c => lv e n ∧ lv e c ∧ z.length = sz ∧ mksC bytes (sv e n) (sv e c)
  | .st _ _ _ | .app _ _ _ _ _ | .cal _ _ | .cav _ _ | .pan _ | .cpy _ _ => False
  | .tas t x => lv e x ∧ tasC t (sv e x)
  | .eqi _ x => lv e x ∧ ifcIs (sv e x)
  | .sla n x lo hi => lv e x ∧ boundL e lo ∧ boundL e hi ∧ slaC rows n (sv e x) ∧ sliceC n (bound e 0 lo) (bound e n hi)
  | .bnot x => lv e x ∧ intIs (sv e x)

def pval (e : Env) (rows : Rows) (k : Nat) : ROp → AV
  | .mv x => ev e x
  | .pick c a b => pickV e a b (sv e c)
  | .nc x => sv e x
  | .alloc z => .pt k z.length 0 0
  | .box x => .pt k (sv e x).cells.length 0 0
  | .build z ps => .agg (partsV e z ps)
  | .bslice sz n z ps => .sl k sz 0 n (some n)
  | .ld g sz x => bif g then .agg (rdv rows (sv e x) sz) else (rdv rows (sv e x) sz).headD .any
  | .fa off x => faV off (sv e x)
  | .fd off g sz x => fdV off g sz (sv e x)
  | .ias sz x i => iasV (sv e x) (sv e i)
  | .iaa len sz x i => iaaV sz (sv e x) (sv e i)
  | .ixa len sz g x i => ixaV sz g (sv e x) (sv e i)
  | .ixs x i => ixsV (sv e x) (sv e i)
  | .ext x i => extV i (sv e x)
  | .bin op x y => binV op (sv e x) (sv e y)
  | .eqb g x y => eqbV g (sv e x) (sv e y)
  | .eqv g l x y => eqaV g l (sv e x) (sv e y)
  | .eqn g x y => .bool (bif g then !(nilV (sv e x)) else nilV (sv e x))
  | .not x => notV (sv e x)
  | .neg x => negV (sv e x)
  | .cv k x => cvV k (sv e x)
  | .b2s x => .str ⟨((elsV rows (sv e x)).map fun c => byteOf (c.headD .any)).toArray⟩
  | .s2b x => s2bV k (sv e x)
  | .mkf f xs ys => .fn (.func f) (xs.map (sv e)) (ys.map (sv e))
  | .mki t x => .ifc t (sv e x)
  | .len x => .int .i64 (lenV (sv e x))
  | .lens x => lensV (sv e x)
  | .cap x => capV (sv e x)
  | .max2 x y => maxV (sv e x) (sv e y)
  | .min2 x y => minV (sv e x) (sv e y)
  | .slc _ x lo hi => sliceV (sv e x) (intOr (bound e 0 lo)).toNat (intOr (bound e (lenV (sv e x)).toNat hi)).toNat
  | .sls x lo hi => slsV e lo hi (sv e x)
  | .mks sz bytes z n c => .sl k sz 0 (intOr (sv e n)).toNat (some (intOr (sv e c)).toNat)
  | .st _ _ _ | .app _ _ _ _ _ | .cal _ _ | .cav _ _ | .pan _ | .cpy _ _ => .any
  | .tas t x => tasV (sv e x)
  | .eqi g x => .bool (bif g then !(niliV (sv e x)) else niliV (sv e x))
  | .sla n x lo hi => slaV n (intOr (bound e 0 lo)).toNat (intOr (bound e n hi)).toNat (sv e x)
  | .bnot x => bnotV (sv e x)

def prow (e : Env) (rows : Rows) : ROp → Option Row
  | .alloc z => some ⟨z.length, [z]⟩
  | .box x => some ⟨(sv e x).cells.length, [(sv e x).cells]⟩
  | .bslice sz n z ps => some ⟨sz, elemsV e (List.replicate n z) ps⟩
  | .s2b x => s2bR (sv e x)
  | .mks sz bytes z n c => some ⟨sz, List.replicate (intOr (sv e c)).toNat z⟩
  | _ => none
end Go.Proofs.YtggmkfagcjdifaaDoor.Ai
namespace Go.Proofs.YtggmkfagcjdifaaDoor.Ai
set_option linter.unusedSimpArgs false
set_option linter.unusedVariables false
set_option linter.unnecessarySimpa false
set_option linter.unusedSectionVars false
set_option linter.unusedVariables false

section
variable {F : Nat → Prop} {w : World} {p : Place} {D : Nat → Prop} {e : Env} {rows : Rows} {P : Program}

theorem vr_ofVal0 {v : Value} {a : AV} (h : ofVal0 v = some a) : VR F w p D a v := by
  unfold ofVal0 at h
  split at h <;> simp only [Option.some.injEq, reduceCtorEq] at h <;> subst h
  · exact .bool _
  · exact .int _ _
  · exact .str _
  · exact .nilp
  · exact .nils
  · exact .nilf
  · exact .nili
  · exact .nilm

theorem vr_list {cs : List AV} {us : Array Value} (h : mapO ofVal0 us.toList = some cs) : us.size = cs.length ∧ ∀ j v, cs[j]? = some v → VR F w p D v (us.getD j undef) := by
  obtain ⟨h1, h2⟩ := mapO_some h
  refine ⟨by simp [h1], fun j v hj => ?_⟩
  have hlt : j < us.size := by
    have := (List.getElem?_eq_some_iff.1 hj).1
    rw [h1] at this; simpa using this
  obtain ⟨y, h3, h4⟩ := h2 j us[j] (by simp [hlt])
  rw [hj] at h4; cases h4
  have : us.getD j undef = us[j] := by simp [hlt]
  rw [this]
  exact vr_ofVal0 h3

theorem vr_ofVal {v : Value} {a : AV} (h : ofVal v = some a) : VR F w p D a v := by
  unfold ofVal at h
  split at h
  · rename_i cs
    cases hm : mapO ofVal0 cs.toList with
    | none => rw [hm] at h; cases h
    | some r =>
      rw [hm] at h; cases h
      obtain ⟨h1, h2⟩ := vr_list (F := F) (w := w) (p := p) (D := D) hm
      exact .agg _ _ h1 h2
  · exact vr_ofVal0 h

theorem vr_glob (ho : Old F w) {g : Nat} (h : (gtab.any fun x => x.1 == g) = true) : VR F w p D (.rop (gcells g)) (.pointer (some ⟨g, 0, none⟩)) := by
  have hv : VR F w (fun _ => (0, 0)) (fun _ => False) (.rop (gcells g)) (.pointer (some ⟨g, 0, none⟩)) := by
    unfold gcells
    cases hf : gtab.find? fun x => x.1 == g with
    | none =>
      rw [List.find?_eq_none] at hf
      obtain ⟨x, hx, hg⟩ := List.any_eq_true.1 h
      exact absurd hg (hf x hx)
    | some x =>
      have h1 := List.find?_some hf
      simp only [beq_iff_eq] at h1
      subst h1
      exact ho.glob x (List.mem_of_find?_eq_some hf)
  exact hv.mono (fun _ h => h) (fun _ _ => rfl) (fun b c t fz hb => ⟨c, t, fz, hb, rfl⟩) (fun _ h => h.elim) (fun _ h => h.elim)

theorem vr_opd {N : Nat} {a : Act} (hold : Old F w) (he : ERel N F w p D e a.tmps) {x : Operand} {y : Opd} (h : opd x = some y) : VR F w p D (ev e y) (a.eval x) := by
  cases x with
  | tmp t => simp only [opd, Option.some.injEq] at h; subst h; exact he.val t
  | const v =>
    simp only [opd] at h
    cases hv : ofVal v with
    | none => rw [hv] at h; cases h
    | some z => rw [hv] at h; cases h; exact vr_ofVal hv
  | func f => simp only [opd, Option.some.injEq] at h; subst h; exact .fn _ _ _ _ _ rfl rfl (by simp) (by simp)
  | global g =>
    simp only [opd] at h
    cases hg : gtab.any fun x => x.1 == g with
    | false => rw [hg] at h; cases h
    | true => rw [hg] at h; cases h; exact vr_glob hold hg

theorem vr_strip : ∀ {v : AV} {u : Value}, VR F w p D v u → v.live → VR F w p D v.strip u := by
  intro v u h
  induction h with
  | opt t v u h1 h2 ih =>
    intro hl
    exact ih hl.1 hl.2
  | _ =>
    intro hl
    constructor <;> assumption

theorem strip_live : ∀ v : AV, v.strip.live := by
  intro v
  induction v using AV.strip.induct with
  | case1 t v ih => simpa [AV.strip] using ih
  | case2 v h => cases v <;> first | trivial | exact absurd rfl (h _ _)

/-- Rows of equal elements, flat. -/
theorem flat_get {sz : Nat} : ∀ {es : List (List AV)}, (∀ x ∈ es, x.length = sz) → es.flatten.length = es.length * sz ∧ ∀ i x j v, es[i]? = some x → x[j]? = some v → es.flatten[i * sz + j]? = some v
  | [], _ => ⟨by simp, fun i x j v h => by simp at h⟩
  | y :: es, h => by
    have hy := h y (by simp)
    obtain ⟨h1, h2⟩ := flat_get (es := es) (fun x hx => h x (by simp [hx]))
    refine ⟨by simp [h1, hy, Nat.add_mul, Nat.add_comm], fun i x j v hx hj => ?_⟩
    simp only [List.flatten_cons]
    cases i with
    | zero =>
      simp only [List.getElem?_cons_zero, Option.some.injEq] at hx
      subst hx
      have := (List.getElem?_eq_some_iff.1 hj).1
      rw [List.getElem?_append_left (by omega)]
      simpa using hj
    | succ i =>
      have hx' : es[i]? = some x := by simpa using hx
      rw [List.getElem?_append_right (by rw [Nat.add_mul]; omega), show (i + 1) * sz + j - y.length = i * sz + j by rw [Nat.add_mul]; omega]
      exact h2 i x j v hx' hj
theorem flat_inv {sz : Nat} {es : List (List AV)} (h : ∀ x ∈ es, x.length = sz) {j : Nat} {v : AV} (hj : es.flatten[j]? = some v) : ∃ i x j', es[i]? = some x ∧ x[j']? = some v ∧ j = i * sz + j' := by
  obtain ⟨f1, f2⟩ := flat_get h
  have hlt : j < es.length * sz := by rw [← f1]; exact (List.getElem?_eq_some_iff.1 hj).1
  have hs : 0 < sz := by rcases Nat.eq_zero_or_pos sz with h0 | h0; (rw [h0] at hlt; simp at hlt); exact h0
  have hi : j / sz < es.length := (Nat.div_lt_iff_lt_mul hs).2 hlt
  have hx := List.getElem?_eq_getElem hi
  have hxl := h _ (List.getElem_mem hi)
  have hj2 : j % sz < (es[j / sz]).length := by rw [hxl]; exact Nat.mod_lt _ hs
  have hv := List.getElem?_eq_getElem hj2
  have he : j / sz * sz + j % sz = j := by rw [Nat.mul_comm]; exact Nat.div_add_mod j sz
  have h1 := f2 _ _ _ _ hx hv
  rw [he, hj] at h1
  cases h1
  exact ⟨_, _, _, hx, hv, he.symm⟩
/-- A row's cells, one after the other. -/
theorem flat_ok {r : Row} {b o : Nat} (hok : RowOK F w p D r b o) : ∃ (c : Array Value) (t : TypeId) (fz : Nat × Nat), w.heap[b]? = some (.cells c t fz) ∧ (fz.2 ≤ fz.1 ∨ c.size ≤ fz.1) ∧ o + r.es.flatten.length ≤ c.size ∧
    ∀ j v, r.es.flatten[j]? = some v → VR F w p D v (c.getD (o + j) undef) := by
  obtain ⟨c, t, fz, hb, hf, hr, hh⟩ := hok.ex
  obtain ⟨f1, f2⟩ := flat_get hok.sz
  refine ⟨c, t, fz, hb, hf, by rw [f1]; exact hr, fun j v hj => ?_⟩
  obtain ⟨i, x, j', hx, hj', rfl⟩ := flat_inv hok.sz hj
  rw [← Nat.add_assoc]
  exact hh i x j' v hx hj'

/-- The block behind an immutable or a row's pointer, as far as is asked. -/
theorem rd_sound (hs : SRel F w p D rows) {v : AV} {u : Value} {sz : Nat} (hv : VR F w p D v u) (h : rdc rows v sz) :
    ∃ (b o : Nat) (c : Array Value) (t : TypeId) (fz : Nat × Nat), u = .pointer (some ⟨b, o, none⟩) ∧ w.heap[b]? = some (.cells c t fz) ∧ o + sz ≤ c.size ∧ (rdv rows v sz).length = sz ∧
      ∀ j x, (rdv rows v sz)[j]? = some x → VR F w p D x (c.getD (o + j) undef) := by
  cases hv with
  | rop cs b o c t fz hb hF hr hh =>
    simp only [rdc] at h
    refine ⟨b, o, c, t, fz, rfl, hb, by omega, by simp [rdv]; omega, fun j x hj => hh j x ?_⟩
    simp only [rdv, List.getElem?_take] at hj
    split at hj
    · exact hj
    · cases hj
  | pt id q i off hid =>
    simp only [rdc] at h
    cases hl : look rows id with
    | none => rw [hl] at h; exact h.elim
    | some r =>
      rw [hl] at h
      obtain ⟨_, hnF, hok⟩ := hs.row id r hl
      by_cases hrq : r.sz = q
      case neg =>
        simp only [beq_false_of_ne hrq, cond_false] at h
        obtain ⟨c, t, fz, hb, hf, hr, hh⟩ := flat_ok hok
        refine ⟨_, _, c, t, fz, rfl, hb, by omega, by simp only [rdv, hl, beq_false_of_ne hrq, cond_false, List.length_take, List.length_drop]; omega, fun j x hj => ?_⟩
        simp only [rdv, hl, beq_false_of_ne hrq, cond_false, List.getElem?_take, List.getElem?_drop] at hj
        split at hj
        · have := hh _ x hj
          rwa [show (p id).2 + (i * q + off + j) = (p id).2 + i * q + off + j by omega] at this
        · cases hj
      subst hrq
      simp only [beq_self_eq_true, cond_true] at h
      obtain ⟨hi, ho⟩ := h
      obtain ⟨c, t, fz, hb, hf, hr, hh⟩ := hok.ex
      have hlen : (r.es.getD i []).length = r.sz := by
        simp only [List.getD, List.getElem?_eq_getElem hi, Option.getD_some]
        exact hok.sz _ (List.getElem_mem hi)
      have hmul : (i + 1) * r.sz ≤ r.es.length * r.sz := Nat.mul_le_mul_right _ hi
      have hmul' : (i + 1) * r.sz = i * r.sz + r.sz := by rw [Nat.add_mul, Nat.one_mul]
      refine ⟨_, _, c, t, fz, rfl, hb, by omega, by simp [rdv, hl]; rw [List.getD_eq_getElem?_getD] at hlen; omega, fun j x hj => ?_⟩
      simp only [rdv, hl, beq_self_eq_true, cond_true, List.getElem?_take, List.getElem?_drop] at hj
      split at hj
      · have hx : r.es[i]? = some (r.es.getD i []) := by simp [List.getD, List.getElem?_eq_getElem hi]
        have := hh i _ (off + j) x hx hj
        rwa [show (p id).2 + i * r.sz + (off + j) = (p id).2 + i * r.sz + off + j by omega] at this
      · cases hj
  | _ => exact h.elim

theorem cell_of {b o : Nat} {c : Array Value} {t : TypeId} {fz : Nat × Nat} (hb : w.heap[b]? = some (.cells c t fz)) (h : o < c.size) : w.cell? ⟨b, o, none⟩ = some (c.getD o undef) := by
  simp [World.cell?, hb, h]

theorem add_none (b o n : Nat) : (Addr.add ⟨b, o, none⟩ n) = ⟨b, o + n, none⟩ := by
  unfold Addr.add; split
  · subst_vars; rfl
  · rfl

theorem run_loadCells_of {b o sz : Nat} {c : Array Value} {t : TypeId} {fz : Nat × Nat} (hb : w.heap[b]? = some (.cells c t fz)) (h : o + sz ≤ c.size) :
    (loadCells ⟨b, o, none⟩ sz).run P w = .ok ((List.range sz).map fun j => c.getD (o + j) undef).toArray w :=
  run_loadCells w _ _ _ fun j hj => by rw [add_none]; exact cell_of hb (by omega)

theorem getD_mapRange (f : Nat → Value) (n j : Nat) (h : j < n) : (((List.range n).map f).toArray).getD j undef = f j := by
  simp [h]

theorem run_typeInfo {t : TypeId} {i : TypeInfo} (h : P.info? t = some i) (w : World) : (typeInfo t).run P w = .ok i w := by
  simp [typeInfo, program, Sem.run, h]
theorem run_sizeAt {t : TypeId} {n : Nat} (h : sizeAt P t = some n) (w : World) : (sizeOf t).run P w = .ok n w := by
  unfold sizeAt at h
  cases hi : P.info? t with
  | none => rw [hi] at h; cases h
  | some i => rw [hi] at h; cases h; simp [sizeOf, run_typeInfo hi]
theorem run_isAgg {t : TypeId} {g : Bool} (h : isAggT P t = some g) (w : World) : (isAgg t).run P w = .ok g w := by
  unfold isAggT at h
  cases hd : P.underlying t with
  | none => rw [hd] at h; cases h
  | some d =>
    rw [hd] at h; simp only [Option.map_some, Option.some.injEq] at h
    simp only [isAgg, Sem.run_bind, run_underlying hd, Result.andThen_ok]
    subst h
    cases d <;> rfl
theorem run_zero {t : TypeId} {z : List AV} (h : zeroOf P t = some z) (w : World) : ∃ v, (zeroValue t).run P w = .ok v w ∧ mapO ofVal0 v.cells.toList = some z := by
  unfold zeroOf at h
  cases hi : P.info? t with
  | none => rw [hi] at h; cases h
  | some i =>
    rw [hi] at h
    cases hz : i.zero with
    | none => rw [Option.bind_some, hz] at h; cases h
    | some v =>
      rw [Option.bind_some, hz] at h
      exact ⟨v, by simp [zeroValue, run_typeInfo hi, hz], h⟩

/-- A load, done. -/
theorem ld_sound (hs : SRel F w p D rows) {v : AV} {u : Value} {sz : Nat} {g : Bool} {t : TypeId} (hv : VR F w p D v u) (hc : rdc rows v sz) (hg : isAggT P t = some g) (hz : sizeAt P t = some sz)
    (h1 : g = true ∨ sz = 1) : ∃ u', (Instr.loadAt t u).run P w = .ok u' w ∧ VR F w p D (bif g then .agg (rdv rows v sz) else (rdv rows v sz).headD .any) u' := by
  obtain ⟨b, o, c, ty, fz, rfl, hb, hr, hlen, hh⟩ := rd_sound hs hv hc
  simp only [Instr.loadAt, Instr.sureAddr, Sem.run_bind, Sem.run_pure, Result.andThen_ok, loadVar, run_isAgg hg]
  cases g with
  | true =>
    simp only [if_true, Sem.run_bind, run_sizeAt hz, Result.andThen_ok, run_loadCells_of hb hr, Sem.run_pure, cond_true]
    refine ⟨_, rfl, .agg _ _ (by simp [hlen]) fun j x hj => ?_⟩
    have hj' : j < sz := by have := (List.getElem?_eq_some_iff.1 hj).1; omega
    rw [getD_mapRange _ _ _ hj']
    exact hh j x hj
  | false =>
    have h1 : sz = 1 := h1.resolve_left (by simp)
    subst h1
    simp only [Bool.false_eq_true, if_false, run_load, cell_of hb (show o < c.size by omega), cond_false]
    refine ⟨_, rfl, ?_⟩
    match hm : rdv rows v 1, hlen with
    | [x], _ => exact hh 0 x (by rw [hm]; rfl)
end
end Go.Proofs.YtggmkfagcjdifaaDoor.Ai
namespace Go.Proofs.YtggmkfagcjdifaaDoor.Ai
set_option linter.unusedSimpArgs false
set_option linter.unusedVariables false
set_option linter.unnecessarySimpa false
set_option linter.unusedSectionVars false
set_option linter.unusedVariables false

def upd (p : Place) (k : Nat) (x : Nat × Nat) : Place := fun i => if i = k then x else p i

structure PRes (F : Nat → Prop) (w : World) (p : Place) (D : Nat → Prop) (k : Nat) (w' : World) (u : Value) (row : Option Row) (v : AV) : Prop where
  grow : Grow w w'
  nrow : ∀ r, row = some r → RowOK F w' (upd p k (w.heap.size, 0)) (fun i => D i ∨ i = k) r w.heap.size 0 ∧ w.heap.size < w'.heap.size
  val : VR F w' (upd p k (w.heap.size, 0)) (fun i => D i ∨ (i = k ∧ row ≠ none)) v u

section
variable {F : Nat → Prop} {w : World} {p : Place} {D : Nat → Prop} {e : Env} {rows : Rows} {P : Program} {k : Nat}

theorem upd_of {x : Nat × Nat} (hk : ¬ D k) : ∀ i, D i → upd p k x i = p i := fun i hi => by
  unfold upd; rw [if_neg]; rintro rfl; exact hk hi

theorem PRes.same (hs : SRel F w p D rows) (hk : ¬ D k) {v : AV} {u : Value} (h : VR F w p D v u) : PRes F w p D k w u none v :=
  ⟨.refl w, fun _ h => by (cases h), h.grow (.refl w) hs.old (upd_of hk) (fun i hi => .inl hi)⟩

theorem VR.sv {y : Opd} {u : Value} (h : VR F w p D (ev e y) u) (hl : lv e y) : VR F w p D (sv e y) u := vr_strip h hl

theorem Grow.alloc (w : World) (o : Obj) : Grow w (w.alloc o) :=
  ⟨rfl, rfl, rfl, by show _ ≤ (w.heap.push o).size; simp, fun b hb => by show (w.heap.push o)[b]? = _; simp [Array.getElem?_push, Nat.ne_of_lt hb]⟩
theorem heap_alloc (w : World) (o : Obj) : (w.alloc o).heap[w.heap.size]? = some o := by show (w.heap.push o)[w.heap.size]? = _; simp
theorem Grow.drew (w : World) : Grow w w.drew := ⟨rfl, rfl, rfl, Nat.le_refl _, fun _ _ => rfl⟩

/-- A new row of one element. -/
theorem PRes.one (hs : SRel F w p D rows) (hk : ¬ D k) {cs : List AV} {us : Array Value} (t : TypeId) (hu : us.size = cs.length) (h : ∀ j v, cs[j]? = some v → VR F w p D v (us.getD j undef)) :
    PRes F w p D k (w.alloc (.cells us t)) (.pointer (some ⟨w.heap.size, 0, none⟩)) (some ⟨cs.length, [cs]⟩) (.pt k cs.length 0 0) := by
  have hg := Grow.alloc w (.cells us t)
  refine ⟨hg, ?_, ?_⟩
  · rintro r ⟨⟩
    refine ⟨⟨⟨us, t, (0, 0), heap_alloc w _, .inl (Nat.le_refl _), by simp [hu], ?_⟩, by simp⟩, by show _ < (w.heap.push _).size; simp⟩
    intro i x j v hx hj
    cases i with
    | zero =>
      simp at hx; subst hx
      simpa using (h j v hj).grow hg hs.old (upd_of hk) (fun i hi => .inl hi)
    | succ i => simp at hx
  · have := VR.pt (F := F) (w := w.alloc (.cells us t)) (p := upd p k (w.heap.size, 0)) (D := fun i => D i ∨ (i = k ∧ (some (Row.mk cs.length [cs])) ≠ none)) k cs.length 0 0 (.inr ⟨rfl, by simp⟩)
    simpa [upd] using this

theorem known_cells {v : AV} {u : Value} (h : VR F w p D v u) (hk : v.known) : u.cells.size = v.cells.length ∧ ∀ j x, v.cells[j]? = some x → VR F w p D x (u.cells.getD j undef) := by
  have one : ∀ {v : AV} {u : Value}, VR F w p D v u → u.cells = #[u] → v.cells = [v] → u.cells.size = v.cells.length ∧ ∀ j x, v.cells[j]? = some x → VR F w p D x (u.cells.getD j undef) := by
    intro v u h h1 h2
    rw [h1, h2]
    refine ⟨rfl, fun j x hj => ?_⟩
    cases j with
    | zero => simp at hj; subst hj; simpa using h
    | succ j => simp at hj
  cases h with
  | any => exact hk.elim
  | opt => exact hk.elim
  | agg cs us hs h => exact ⟨hs, h⟩
  | bool b => exact one (.bool b) rfl rfl
  | int kk n => exact one (.int kk n) rfl rfl
  | str s => exact one (.str s) rfl rfl
  | nilp => exact one .nilp rfl rfl
  | nils => exact one .nils rfl rfl
  | nilf => exact one .nilf rfl rfl
  | nili => exact one .nili rfl rfl
  | tup cs us hs h => exact one (.tup cs us hs h) rfl rfl
  | rosNil sz => exact one (.rosNil sz) rfl rfl
  | rosEmp sz a cap => exact one (.rosEmp sz a cap) rfl rfl
  | ros sz es b o cap c t fz a1 a2 a3 a4 a5 a6 => exact one (.ros sz es b o cap c t fz a1 a2 a3 a4 a5 a6) rfl rfl
  | rop cs b o c t fz a1 a2 a3 a4 => exact one (.rop cs b o c t fz a1 a2 a3 a4) rfl rfl
  | sl id sz i n kk a cap a1 a2 a3 a4 => exact one (.sl id sz i n kk a cap a1 a2 a3 a4) rfl rfl
  | pt id sz i off a1 => exact one (.pt id sz i off a1) rfl rfl
  | fn f xs ys us vs a1 a2 a3 a4 => exact one (.fn f xs ys us vs a1 a2 a3 a4) rfl rfl
  | ifc t v u h => exact one (.ifc t v u h) rfl rfl
  | nilm => exact one .nilm rfl rfl
  | roe sz a cap => exact one (.roe sz a cap) rfl rfl

theorem alloc_sound (hs : SRel F w p D rows) (hk : ¬ D k) {t : TypeId} {z : List AV} (h : zeroOf P t = some z) (old : Value) :
    ∃ u w', (Instr.alloc t true old).run P w = .ok u w' ∧ PRes F w p D k w' u (some ⟨z.length, [z]⟩) (.pt k z.length 0 0) := by
  obtain ⟨v, h1, h2⟩ := run_zero h w
  obtain ⟨h3, h4⟩ := vr_list (F := F) (w := w) (p := p) (D := D) h2
  exact ⟨_, _, by simp [Instr.alloc, h1, newVar, newRow], PRes.one hs hk t h3 h4⟩

theorem box_sound (hs : SRel F w p D rows) (hk : ¬ D k) (t : TypeId) {v : AV} {x : Value} (h : VR F w p D v x) (hn : v.known) :
    ∃ u w', (Instr.box t x).run P w = .ok u w' ∧ PRes F w p D k w' u (some ⟨v.cells.length, [v.cells]⟩) (.pt k v.cells.length 0 0) := by
  obtain ⟨h3, h4⟩ := known_cells h hn
  exact ⟨_, _, by simp [Instr.box, newVar, newRow], PRes.one hs hk t h3 h4⟩

theorem fill_get (part : Array Value) (off : Nat) : ∀ (l : List Value) (i : Nat) (cells : Array Value), off + i + l.length ≤ cells.size →
    ((l.zipIdx i).foldl (fun cs (c, j) => cs.setIfInBounds (off + j) c) cells).size = cells.size ∧
    ∀ m, ((l.zipIdx i).foldl (fun cs (c, j) => cs.setIfInBounds (off + j) c) cells).getD m undef = if off + i ≤ m ∧ m < off + i + l.length then l.getD (m - off - i) undef else cells.getD m undef
  | [], i, cells, h => by
    refine ⟨rfl, fun m => ?_⟩
    rw [if_neg (by simp only [List.length_nil]; omega)]; rfl
  | c :: l, i, cells, h => by
    simp only [List.length_cons] at h
    obtain ⟨h1, h2⟩ := fill_get part off l (i + 1) (cells.setIfInBounds (off + i) c) (by simp; omega)
    simp only [List.zipIdx_cons, List.foldl_cons]
    refine ⟨by rw [h1]; simp, fun m => ?_⟩
    rw [h2 m]
    by_cases hm : m = off + i
    · subst hm
      rw [if_neg (by omega), if_pos (by simp only [List.length_cons]; omega)]
      have : off + i < cells.size := by omega
      simp [this]
    · by_cases hin : off + (i + 1) ≤ m ∧ m < off + (i + 1) + l.length
      · rw [if_pos hin, if_pos (by simp only [List.length_cons]; omega), show m - off - i = (m - off - (i + 1)) + 1 by omega, List.getD_cons_succ]
      · rw [if_neg hin, if_neg (by simp only [List.length_cons]; omega)]
        simp [show off + i ≠ m by omega]

/-- The cells of an aggregate, each as the list says. -/
def CellsOK (F : Nat → Prop) (w : World) (p : Place) (D : Nat → Prop) (cs : List AV) (us : Array Value) : Prop :=
  us.size = cs.length ∧ ∀ j v, cs[j]? = some v → VR F w p D v (us.getD j undef)

theorem CellsOK.fill {cs part : List AV} {us vs : Array Value} {off : Nat} (h : CellsOK F w p D cs us) (hp : CellsOK F w p D part vs) (ho : off + part.length ≤ cs.length) :
    CellsOK F w p D (splice cs off part) (vs.zipIdx.foldl (fun cs (c, j) => cs.setIfInBounds (off + j) c) us) := by
  have hz : (vs.zipIdx.foldl (fun cs (c, j) => cs.setIfInBounds (off + j) c) us) = ((vs.toList.zipIdx 0).foldl (fun cs (c, j) => cs.setIfInBounds (off + j) c) us) := by
    rw [← Array.foldl_toList, Array.toList_zipIdx]
  have hvl : vs.toList.length = part.length := by simpa using hp.1
  obtain ⟨h1, h2⟩ := fill_get vs off vs.toList 0 us (by rw [hvl, h.1]; omega)
  rw [hz]
  refine ⟨by rw [h1, h.1]; simp [splice]; omega, fun j v hj => ?_⟩
  rw [h2 j]
  unfold splice at hj
  by_cases hin : off + 0 ≤ j ∧ j < off + 0 + vs.toList.length
  · rw [if_pos hin]
    rw [hvl] at hin
    rw [List.append_assoc, List.getElem?_append_right (by simp; omega), List.getElem?_append_left (by simp; omega)] at hj
    simp only [List.length_take] at hj
    rw [show min off cs.length = off by omega] at hj
    have := hp.2 _ v hj
    rw [show j - off - 0 = j - off by omega]
    simpa [List.getD] using this
  · rw [if_neg hin]
    rw [hvl] at hin
    refine h.2 j v ?_
    by_cases hlt : j < off
    · rw [List.append_assoc, List.getElem?_append_left (by simp; omega), List.getElem?_take, if_pos hlt] at hj
      exact hj
    · rw [List.getElem?_append_right (by simp; omega), List.getElem?_drop] at hj
      simp only [List.length_append, List.length_take] at hj
      rw [show min off cs.length = off by omega] at hj
      rwa [show off + part.length + (j - (off + part.length)) = j by omega] at hj
end
end Go.Proofs.YtggmkfagcjdifaaDoor.Ai
namespace Go.Proofs.YtggmkfagcjdifaaDoor.Ai
set_option linter.unusedSimpArgs false
set_option linter.unusedVariables false
set_option linter.unnecessarySimpa false
set_option linter.unusedSectionVars false
set_option linter.unusedVariables false

section
variable {F : Nat → Prop} {w : World} {p : Place} {D : Nat → Prop} {e : Env} {rows : Rows} {P : Program} {k : Nat}

/-- Operands of an operation: as the environment says. -/
def OpsOK (F : Nat → Prop) (w : World) (p : Place) (D : Nat → Prop) (e : Env) (ρ : Operand → Value) (xs : List Operand) : Prop :=
  ∀ x ∈ xs, ∀ y, opd x = some y → VR F w p D (ev e y) (ρ x)

theorem fa_sound (hs : SRel F w p D rows) {v : AV} {u : Value} (hv : VR F w p D v u) {s : TypeId} {fs : Array Field} {fl : Field} {f n : Nat} (hu : P.underlying s = some (.struct fs)) (hf : fs[f]? = some fl)
    (hn : sizeAt P fl.type = some n) (h0 : n ≠ 0)
    (hc : faC fl.offset v) :
    ∃ u', (Instr.fieldAt s u f).run P w = .ok u' w ∧ VR F w p D (faV fl.offset v) u' := by
  have run : ∀ b o, (Instr.fieldAt s (.pointer (some ⟨b, o, none⟩)) f).run P w = .ok (.pointer (some ⟨b, o + fl.offset, none⟩)) w := by
    intro b o
    simp only [Instr.fieldAt, Sem.run_bind, run_underlying hu, Result.andThen_ok, hf, Instr.sureAddr, Sem.run_pure, fieldPlace, run_sizeAt hn, if_neg h0, add_none]
  cases hv with
  | rop cs b o c t fz hb hF hr hh =>
    refine ⟨_, run b o, .rop _ b (o + fl.offset) c t fz hb hF (by simp only [faC] at hc; simp; omega) fun j x hj => ?_⟩
    rw [List.getElem?_drop] at hj
    rw [Nat.add_assoc]
    exact hh _ x hj
  | pt id q i o hid =>
    exact ⟨_, run _ _, by rw [Nat.add_assoc]; exact .pt id q i (o + fl.offset) hid⟩
  | _ => exact hc.elim

/-- A part of an aggregate's cells. -/
theorem part_sound {cs : List AV} {us : Array Value} (h : CellsOK F w p D cs us) {t : TypeId} {off sz : Nat} {g : Bool} (hg : isAggT P t = some g) (hz : sizeAt P t = some sz) (h1 : g = true ∨ sz = 1)
    (ho : off + sz ≤ cs.length) : ∃ u', (part t us off).run P w = .ok u' w ∧ VR F w p D (partV g off sz cs) u' := by
  unfold partV
  cases g with
  | true =>
    refine ⟨.agg (us.extract off (off + sz)), by simp only [part, Sem.run_bind, run_isAgg hg, Result.andThen_ok, if_true, run_sizeAt hz, Sem.run_pure], ?_⟩
    simp only [cond_true]
    refine .agg _ _ (by have := h.1; simp; omega) fun j x hj => ?_
    rw [List.getElem?_take, List.getElem?_drop] at hj
    split at hj
    · rename_i hlt
      have := h.2 _ x hj
      have hus := h.1
      simp only [Array.getD_eq_getD_getElem?] at this ⊢
      rw [Array.getElem?_extract_of_lt (by omega)]
      rwa [Array.getElem?_eq_getElem (by omega)] at this
    · cases hj
  | false =>
    have h1 : sz = 1 := h1.resolve_left (by simp)
    subst h1
    have hlt : off < us.size := by have := h.1; omega
    refine ⟨us[off], by simp [part, run_isAgg hg, hlt], ?_⟩
    simp only [cond_false]
    have hx : cs[off]? = some ((cs.drop off).headD .any) := by
      rw [List.headD_eq_head?_getD, List.head?_drop, List.getElem?_eq_getElem (by omega)]; simp
    have := h.2 off _ hx
    simpa [hlt] using this

theorem ias_sound (hs : SRel F w p D rows) {v iv : AV} {u iu : Value} (hv : VR F w p D v u) (hi : VR F w p D iv iu) {t el : TypeId} {sz : Nat} (hu : P.underlying t = some (.slice el)) (hz : sizeAt P el = some sz)
    (hc : iasC sz v iv) :
    ∃ u', (Instr.indexAt t u iu).run P w = .ok u' w ∧ VR F w p D (iasV v iv) u' := by
  have run : ∀ a (len cap : Nat) kk (n : Int), 0 ≤ n → n < len → (Instr.indexAt t (.slice (some a) len cap) (.int kk n)).run P w = .ok (.pointer (some (a.add (n.toNat * sz)))) w := by
    intro a len cap kk n h0 h1
    simp [Instr.indexAt, asIntOf, run_underlying hu, h0, h1, run_sizeAt hz]
  cases hi with
  | int kk n =>
    cases hv with
    | ros q es b o cap c ty fz hb hF hcap hsz hr hh =>
      obtain ⟨rfl, h0, h1⟩ := hc
      have hlt : n.toNat < es.length := by omega
      have hmul : (n.toNat + 1) * q ≤ es.length * q := Nat.mul_le_mul_right _ hlt
      have hmul' : (n.toNat + 1) * q = n.toNat * q + q := by rw [Nat.add_mul, Nat.one_mul]
      have hx : es[n.toNat]? = some (es.getD n.toNat []) := by simp [List.getElem?_eq_getElem hlt]
      have hlen : (es.getD n.toNat []).length = q := hsz _ (List.mem_of_getElem? hx)
      refine ⟨_, run _ _ _ _ _ h0 h1, ?_⟩
      rw [add_none]
      exact .rop _ b _ c ty fz hb hF (by omega) fun j x hj => hh _ _ j x hx hj
    | sl id q j m kc a cap hid hn hk' ha =>
      obtain ⟨rfl, h0, h1⟩ := hc
      rcases ha with ha | ⟨c, ty, fz, rfl, hb, hr⟩
      · omega
      · exact ⟨_, run _ _ _ _ _ h0 h1, by rw [add_none, Nat.add_assoc, ← Nat.add_mul]; exact .pt id q (j + n.toNat) 0 hid⟩
    | rosNil q =>
      obtain ⟨rfl, h0, h1⟩ := hc
      simp at h1; omega
    | rosEmp q =>
      obtain ⟨rfl, h0, h1⟩ := hc
      simp at h1; omega
    | _ => exact hc.elim
  | _ => cases v <;> exact hc.elim

theorem iaa_sound (hs : SRel F w p D rows) {v iv : AV} {u iu : Value} (hv : VR F w p D v u) (hi : VR F w p D iv iu) {t el : TypeId} {sz len : Nat} (hu : P.underlying t = some (.array len el)) (hz : sizeAt P el = some sz)
    (hc : iaaC len sz v iv) :
    ∃ u', (Instr.indexAt t u iu).run P w = .ok u' w ∧ VR F w p D (iaaV sz v iv) u' := by
  have run : ∀ a kk (n : Int), 0 ≤ n → n < len → (Instr.indexAt t (.pointer (some a)) (.int kk n)).run P w = .ok (.pointer (some (a.add (n.toNat * sz)))) w := by
    intro a kk n h0 h1
    simp [Instr.indexAt, asIntOf, run_underlying hu, h0, h1, run_sizeAt hz, Instr.sureAddr]
  cases hi with
  | int kk n =>
    cases hv with
    | rop cs b o c ty fz hb hF hr hh =>
      obtain ⟨h0, h1, h2⟩ := hc
      refine ⟨_, run _ _ _ h0 h1, ?_⟩
      rw [add_none]
      refine .rop _ b _ c ty fz hb hF (by simp; omega) fun j x hj => ?_
      rw [List.getElem?_drop] at hj
      rw [Nat.add_assoc]
      exact hh _ x hj
    | pt id q j o hid =>
      obtain ⟨h0, h1⟩ := hc
      exact ⟨_, run _ _ _ h0 h1, by rw [add_none, Nat.add_assoc]; exact .pt id q j (o + n.toNat * sz) hid⟩
    | _ => exact hc.elim
  | _ => cases v <;> exact hc.elim

theorem bin_sound {x y : AV} {u v : Value} {op : BinOp} {t : TypeId} (hx : VR F w p D x u) (hy : VR F w p D y v) (hc : binC op x y) :
    ∃ r, (binOp op t u v).run P w = .ok r w ∧ VR F w p D (binV op x y) r ∧ (∀ c, u ≠ .agg c) ∧ u ≠ .nilIface := by
  cases hx with
  | int k a =>
    cases hy with
    | int k' b =>
      simp only [binC] at hc
      refine ⟨?_, ?_, ?_, by simp, by simp⟩
      case refine_1 => exact match intV op k a b with | .int k n => .int k n | .bool b => .bool b | _ => undef
      · cases op <;> simp only [intC] at hc <;> first
          | (obtain ⟨rfl, hb⟩ := hc; simp [binOp, Op.intDiv, intV, hb])
          | (subst hc; simp [binOp, Op.intArith, Op.intBits, Op.intCmp, intV, bits2])
          | (simp [binOp, Op.shift, intV, Int.not_lt.2 hc])
      · simp only [binV]
        cases op <;> first | exact VR.int _ _ | exact VR.bool _
    | _ => exact hc.elim
  | str a =>
    cases hy with
    | str b =>
      simp only [binC] at hc
      cases op <;> simp only [strC] at hc <;> first
        | exact hc.elim
        | exact ⟨_, by simp [binOp, Op.stringOp], .bool _, by simp, by simp⟩
        | exact ⟨_, by simp only [binOp, Op.stringOp]; rw [if_neg (by omega)]; rfl, .str _, by simp, by simp⟩
    | _ => exact hc.elim
  | _ => cases y <;> exact hc.elim

theorem equal_at (t : TypeId) (x y : Value) : Op.equal t x y = Op.equalIn (9999 + 1) t x y := rfl
theorem equalIn_bool (d : Nat) {t : TypeId} (hu : P.underlying t = some .bool) (a b : Bool) : (Op.equalIn (d + 1) t (.bool a) (.bool b)).run P w = .ok (a == b) w := by
  simp [Op.equalIn, run_underlying hu]
theorem equalIn_nil (d : Nat) {t el : TypeId} (hu : P.underlying t = some (.slice el)) (a : Option Addr) (n c : Nat) : (Op.equalIn (d + 1) t (.slice a n c) (.slice none 0 0)).run P w = .ok a.isNone w := by
  cases a <;> simp [Op.equalIn, run_underlying hu]

theorem eqb_sound {a b : Bool} {t : TypeId} {neg : Bool} (hu : P.underlying t = some .bool) :
    (binOp (bif neg then .neq else .eql) t (.bool a) (.bool b)).run P w = .ok (.bool (bif neg then !(a == b) else (a == b))) w := by
  have := equalIn_bool (P := P) (w := w) 9999 hu a b
  cases neg <;> simp only [cond_true, cond_false, binOp, equal_at, Sem.run_bind, this, Result.andThen_ok, Sem.run_pure]

theorem eqn_sound {t el : TypeId} {neg : Bool} (hu : P.underlying t = some (.slice el)) {v : AV} {u : Value} (hv : VR F w p D v u) (hc : nilC v) :
    (binOp (bif neg then .neq else .eql) t u (.slice none 0 0)).run P w = .ok (.bool (bif neg then !(nilV v) else nilV v)) w ∧ (∀ c, u ≠ .agg c) ∧ u ≠ .nilIface := by
  have no : ∀ a n c, (binOp (bif neg then .neq else .eql) t (.slice a n c) (.slice none 0 0)).run P w = .ok (.bool (bif neg then !(a.isNone) else a.isNone)) w := by
    intro a n c
    have := equalIn_nil (P := P) (w := w) 9999 hu a n c
    cases neg <;> simp only [cond_true, cond_false, binOp, equal_at, Sem.run_bind, this, Result.andThen_ok, Sem.run_pure]
  cases hv with
  | nils => exact ⟨no _ _ _, by simp, by simp⟩
  | rosNil q => exact absurd rfl hc
  | rosEmp q => exact absurd rfl hc
  | ros => exact ⟨no _ _ _, by simp, by simp⟩
  | roe => exact ⟨no _ _ _, by simp, by simp⟩
  | sl id q i n kc a cap hid hn hk ha =>
    have : cap ≠ 0 := by
      rintro rfl
      simp only [nilC] at hc
      rcases hc with h | ⟨m, h⟩
      · omega
      · have := hk _ h; omega
    obtain ⟨c, ty, fz, rfl, _⟩ := ha.resolve_left this
    exact ⟨no _ _ _, by simp, by simp⟩
  | _ => exact hc.elim

theorem len_sound {t el : TypeId} (hu : P.underlying t = some (.slice el)) {ty : TypeId} {ts : Array TypeId} (ht : ts[0]? = some t) {v : AV} {u : Value} (hv : VR F w p D v u) (hc : lenC v) :
    (Builtin.len_ ts ty #[u]).run P w = .ok (.int .i64 (lenV v)) w := by
  cases hv with
  | nils => simp [Builtin.len_, ht, run_underlying hu, lenV, goInt]
  | rosNil q => simp [Builtin.len_, ht, run_underlying hu, lenV, goInt]
  | rosEmp q => simp [Builtin.len_, ht, run_underlying hu, lenV, goInt]
  | ros => simp [Builtin.len_, ht, run_underlying hu, lenV, goInt]
  | roe => simp [Builtin.len_, ht, run_underlying hu, lenV, goInt]
  | sl => simp [Builtin.len_, ht, run_underlying hu, lenV, goInt]
  | _ => exact hc.elim
end
end Go.Proofs.YtggmkfagcjdifaaDoor.Ai
namespace Go.Proofs.YtggmkfagcjdifaaDoor.Ai
set_option linter.unusedSimpArgs false
set_option linter.unusedVariables false
set_option linter.unnecessarySimpa false
set_option linter.unusedSectionVars false
set_option linter.unusedVariables false

section
variable {F : Nat → Prop} {w : World} {p : Place} {D : Nat → Prop} {e : Env} {rows : Rows} {P : Program} {k : Nat}

theorem splice_length {cs part : List AV} {off : Nat} (h : off + part.length ≤ cs.length) : (splice cs off part).length = cs.length := by
  simp [splice]; omega

/-- The parts of a literal, filled in one by one. -/
theorem fill_sound {ρ : Operand → Value} (place : Nat → Option (Nat × Nat)) : ∀ (ps : List (Nat × Operand)) (qs : List (Nat × Nat × Opd)) (cs : List AV) (us : Array Value),
    CellsOK F w p D cs us → (∀ x ∈ ps, ∀ y, opd x.2 = some y → VR F w p D (ev e y) (ρ x.2)) →
    qs.length = ps.length → (∀ (j : Nat) (x : Nat × Operand), ps[j]? = some x → ∃ off sz y, qs[j]? = some (off, sz, y) ∧ place x.1 = some (off, sz) ∧ opd x.2 = some y) →
    partsC e cs.length qs → ∃ us', Instr.fill place us (ps.map fun x => (x.1, ρ x.2)) = some us' ∧ CellsOK F w p D (partsV e cs qs) us' := by
  intro ps
  induction ps with
  | nil =>
    intro qs cs us h _ hl _ _
    cases qs with
    | nil => exact ⟨us, rfl, h⟩
    | cons => simp at hl
  | cons x ps ih =>
    intro qs cs us h hx hl hq hc
    cases qs with
    | nil => simp at hl
    | cons q qs =>
      obtain ⟨off, sz, y, h1, h2, h3⟩ := hq 0 x (by simp)
      simp only [List.getElem?_cons_zero, Option.some.injEq] at h1
      subst h1
      obtain ⟨⟨c1, c2, c3, c4⟩, hc'⟩ := hc
      have hv := (hx x (by simp) y h3).sv c1
      obtain ⟨k1, k2⟩ := known_cells hv c2
      have hf := CellsOK.fill h ⟨k1, k2⟩ (off := off) (by omega)
      simp only [List.map_cons, Instr.fill, h2]
      rw [if_neg (by have := h.1; simp; omega)]
      refine ih qs _ _ hf (fun x hm => hx x (by simp [hm])) (by simpa using hl) (fun j x hj => ?_) (by rwa [splice_length (by omega)])
      simpa using hq (j + 1) x (by simpa using hj)

theorem mapO_map {α β : Type} {f : α → Option β} {l : List α} {r : List β} (h : mapO f l = some r) : r.length = l.length ∧ ∀ (j : Nat) (x : α), l[j]? = some x → ∃ y, r[j]? = some y ∧ f x = some y := by
  obtain ⟨h1, h2⟩ := mapO_some h
  exact ⟨h1, fun j x hj => let ⟨y, a, b⟩ := h2 j x hj; ⟨y, b, a⟩⟩

theorem run_places : ∀ (fs : List Field) (ns : List Nat), mapO (fun f => sizeAt P f.type) fs = some ns →
    (fs.mapM fun f => do pure (f.offset, ← sizeOf f.type) : Sem (List (Nat × Nat))).run P w = .ok (fs.map fun f => (f.offset, (sizeAt P f.type).getD 0)) w
  | [], _, _ => by simp
  | f :: fs, ns, h => by
    simp only [mapO] at h
    split at h
    · rename_i a b ha hb
      have ih := run_places fs b hb
      simp only [List.mapM_cons, Sem.run_bind, run_sizeAt ha, Result.andThen_ok, Sem.run_pure, ih, List.map_cons, ha, Option.getD_some]
    · cases h
theorem run_placesA {fs : Array Field} {ns : List Nat} (h : mapO (fun f => sizeAt P f.type) fs.toList = some ns) :
    (fs.mapM fun f => do pure (f.offset, ← sizeOf f.type) : Sem (Array (Nat × Nat))).run P w = .ok (fs.map fun f => (f.offset, (sizeAt P f.type).getD 0)) w := by
  rw [Array.mapM_eq_mapM_toList, Sem.run_map, run_places fs.toList ns h]
  simp only [Result.andThen_ok]
  congr 1
  apply Array.ext'; simp

/-- A new row, whole. -/
theorem PRes.row (hs : SRel F w p D rows) (hk : ¬ D k) {sz : Nat} {es : List (List AV)} {us : Array Value} (t : TypeId) (hz : ∀ x ∈ es, x.length = sz) (hlen : es.length * sz ≤ us.size)
    (h : ∀ i x j v, es[i]? = some x → x[j]? = some v → VR F w p D v (us.getD (i * sz + j) undef)) {w' : World} (hg : Grow w w')
    {fz : Nat × Nat} (hw : w'.heap[w.heap.size]? = some (.cells us t fz)) (hfz : fz.2 ≤ fz.1 ∨ us.size ≤ fz.1) {n cap : Nat} {kc : Option Nat} (hn : n ≤ cap) (hcap : cap * sz ≤ us.size) (hkc : ∀ m, kc = some m → cap = m) :
    PRes F w p D k w' (.slice (some ⟨w.heap.size, 0, none⟩) n cap) (some ⟨sz, es⟩) (.sl k sz 0 n kc) := by
  refine ⟨hg, ?_, ?_⟩
  · rintro r ⟨⟩
    refine ⟨⟨⟨us, t, fz, hw, hfz, by simpa using hlen, ?_⟩, hz⟩, lt_of_heap hw⟩
    intro i x j v hx hj
    rw [Nat.zero_add]
    exact (h i x j v hx hj).grow hg hs.old (upd_of hk) (fun i hi => .inl hi)
  · refine .sl k sz 0 n kc _ cap (.inr ⟨rfl, by simp⟩) hn hkc (.inr ⟨us, t, fz, ?_, ?_, ?_⟩)
    · simp [upd]
    · simpa [upd] using hw
    · simpa [upd] using hcap

theorem elems_fill (z : List AV) (sz n : Nat) {ρ : Operand → Value} : ∀ (ps : List (Nat × Operand)) (qs : List (Nat × Opd)) (es : List (List AV)) (us : Array Value),
    es.length = n → (∀ x ∈ es, x.length = sz) → CellsOK F w p D es.flatten us → (∀ x ∈ ps, ∀ y, opd x.2 = some y → VR F w p D (ev e y) (ρ x.2)) →
    qs.length = ps.length → (∀ (j : Nat) (x : Nat × Operand), ps[j]? = some x → ∃ y, qs[j]? = some (x.1, y) ∧ opd x.2 = some y) →
    elemsC e sz n qs → ∃ us', Instr.fill (fun i => some (i * sz, sz)) us (ps.map fun x => (x.1, ρ x.2)) = some us' ∧ (elemsV e es qs).length = n ∧ (∀ x ∈ elemsV e es qs, x.length = sz) ∧ CellsOK F w p D (elemsV e es qs).flatten us' := by
  intro ps
  induction ps with
  | nil =>
    intro qs es us hn hz h _ hl _ _
    cases qs with
    | nil => exact ⟨us, rfl, hn, hz, h⟩
    | cons => simp at hl
  | cons x ps ih =>
    intro qs es us hn hz h hx hl hq hc
    cases qs with
    | nil => simp at hl
    | cons q qs =>
      obtain ⟨y, h1, h3⟩ := hq 0 x (by simp)
      simp only [List.getElem?_cons_zero, Option.some.injEq] at h1
      subst h1
      obtain ⟨⟨c1, c2, c3, c4⟩, hc'⟩ := hc
      have hv := (hx x (by simp) y h3).sv c1
      obtain ⟨k1, k2⟩ := known_cells hv c2
      obtain ⟨f1, f2⟩ := flat_get hz
      have hmul : (x.1 + 1) * sz ≤ es.length * sz := Nat.mul_le_mul_right _ (by omega)
      have hmul' : (x.1 + 1) * sz = x.1 * sz + sz := by rw [Nat.add_mul, Nat.one_mul]
      have hf := CellsOK.fill h ⟨k1, k2⟩ (off := x.1 * sz) (by rw [f1, c3]; omega)
      have hset : splice es.flatten (x.1 * sz) (sv e y).cells = (es.set x.1 (sv e y).cells).flatten := by
        have hi : x.1 < es.length := by omega
        clear hf hmul hmul' f2 h hc' hq hl ih
        generalize x.1 = i at *
        clear c4
        induction es generalizing i n with
        | nil => simp at hi
        | cons a es ih =>
          have ha := hz a (by simp)
          cases i with
          | zero =>
            simp only [splice, Nat.zero_mul, List.take_zero, List.nil_append, Nat.zero_add, List.set_cons_zero, List.flatten_cons]
            rw [c3, List.drop_append_of_le_length (by omega), List.drop_of_length_le (by omega)]; simp
          | succ i =>
            obtain ⟨g1, _⟩ := flat_get (es := es) (sz := sz) (fun x hx => hz x (by simp [hx]))
            have := ih es.length rfl (fun x hx => hz x (by simp [hx])) g1 i (by simpa using hi)
            simp only [List.set_cons_succ, List.flatten_cons]
            rw [← this]
            simp only [splice]
            rw [show (i + 1) * sz = a.length + i * sz by rw [Nat.add_mul]; omega, List.take_length_add_append, show a.length + i * sz + (sv e y).cells.length = a.length + (i * sz + (sv e y).cells.length) by omega, List.drop_length_add_append]
            simp
      simp only [List.map_cons, Instr.fill]
      rw [if_neg (by have := h.1; simp; omega)]
      rw [hset] at hf
      refine ih qs (es.set x.1 (sv e y).cells) _ (by simp [hn]) (fun z hm => ?_) hf (fun x hm => hx x (by simp [hm])) (by simpa using hl) (fun j x hj => ?_) hc'
      · rcases List.mem_or_eq_of_mem_set hm with h | rfl
        · exact hz z h
        · exact c3
      · simpa using hq (j + 1) x (by simpa using hj)
end
end Go.Proofs.YtggmkfagcjdifaaDoor.Ai
