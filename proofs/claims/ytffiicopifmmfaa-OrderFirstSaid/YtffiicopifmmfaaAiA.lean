/-
  Abstract values, the store of rows, and how they stand to the model's memory. Plain facts, no condition.
-/
import Derived.TacticsIn
import Derived.OrdersIn
import Derived.Below
namespace Go.Proofs.Ytffiicopifmmfaa.Ai
set_option linter.unusedSimpArgs false
set_option linter.unusedVariables false
set_option linter.unnecessarySimpa false
set_option linter.unusedSectionVars false
set_option linter.unusedVariables false

inductive AV where
  | any
  | bool (b : Bool)
  | int (k : IntKind) (n : Int)
  | str (s : ByteArray)
  | nilp
  | nils
  | nilf
  | nili
  | agg (cs : List AV)
  | tup (cs : List AV)
  | ros (sz : Nat) (es : List (List AV))
  | rop (cs : List AV)
  | sl (id sz i n : Nat) (cap : Option Nat)
  | pt (id sz i off : Nat)
  | fn (f : Fn) (first captured : List AV)
  | ifc (t : TypeId) (v : AV)
  | nilm
  | roe (sz : Nat)
  | opt (t : Bool) (v : AV)
  deriving Inhabited

def AV.cells : AV → List AV
  | .agg cs => cs
  | v => [v]

structure Row where
  sz : Nat
  es : List (List AV)
  deriving Inhabited

def look : List (Nat × Row) → Nat → Option Row
  | [], _ => none
  | (k, r) :: l, id => bif k == id then some r else look l id
def over : List (Nat × Row) → Nat → Row → List (Nat × Row)
  | [], _, _ => []
  | (k, q) :: l, id, r => bif k == id then (k, r) :: l else (k, q) :: over l id r
def drop : List (Nat × Row) → Nat → List (Nat × Row)
  | [], _ => []
  | (k, q) :: l, id => bif k == id then drop l id else (k, q) :: drop l id

structure Store where
  nx : Nat
  rows : List (Nat × Row)
  deriving Inhabited

abbrev Env := List (Nat × AV)
def get : Env → Nat → AV
  | [], _ => .any
  | (k, v) :: l, t => bif k == t then v else get l t

abbrev Place := Nat → Nat × Nat

inductive VR (F : Nat → Prop) (w : World) (p : Place) (D : Nat → Prop) : AV → Value → Prop
  | any (u : Value) : VR F w p D .any u
  | bool (b : Bool) : VR F w p D (.bool b) (.bool b)
  | int (k : IntKind) (n : Int) : VR F w p D (.int k n) (.int k n)
  | str (s : ByteArray) : VR F w p D (.str s) (.string s)
  | nilp : VR F w p D .nilp (.pointer none)
  | nils : VR F w p D .nils (.slice none 0 0)
  | nilf : VR F w p D .nilf .nilFunc
  | nili : VR F w p D .nili .nilIface
  | agg (cs : List AV) (us : Array Value) (hs : us.size = cs.length) (h : ∀ j v, cs[j]? = some v → VR F w p D v (us.getD j undef)) : VR F w p D (.agg cs) (.agg us)
  | tup (cs : List AV) (us : Array Value) (hs : us.size = cs.length) (h : ∀ j v, cs[j]? = some v → VR F w p D v (us.getD j undef)) : VR F w p D (.tup cs) (.tuple us)
  | rosNil (sz : Nat) : VR F w p D (.ros sz []) (.slice none 0 0)
  | rosEmp (sz : Nat) (a : Addr) (cap : Nat) : VR F w p D (.ros sz []) (.slice (some a) 0 cap)
  | ros (sz : Nat) (es : List (List AV)) (b o cap : Nat) (c : Array Value) (t : TypeId) (fz : Nat × Nat) (hb : w.heap[b]? = some (Obj.cells c t fz)) (hF : F b) (hcap : es.length ≤ cap)
      (hsz : ∀ x ∈ es, x.length = sz) (hr : o + es.length * sz ≤ c.size) (h : ∀ i x j v, es[i]? = some x → x[j]? = some v → VR F w p D v (c.getD (o + i * sz + j) undef)) :
      VR F w p D (.ros sz es) (.slice (some ⟨b, o, none⟩) es.length cap)
  | rop (cs : List AV) (b o : Nat) (c : Array Value) (t : TypeId) (fz : Nat × Nat) (hb : w.heap[b]? = some (Obj.cells c t fz)) (hF : F b)
      (hr : o + cs.length ≤ c.size) (h : ∀ j v, cs[j]? = some v → VR F w p D v (c.getD (o + j) undef)) : VR F w p D (.rop cs) (.pointer (some ⟨b, o, none⟩))
  | sl (id sz i n : Nat) (k : Option Nat) (a : Option Addr) (cap : Nat) (hid : D id) (hn : n ≤ cap) (hk : ∀ m, k = some m → cap = m)
      (ha : cap = 0 ∨ ∃ (c : Array Value) (t : TypeId) (fz : Nat × Nat), a = some ⟨(p id).1, (p id).2 + i * sz, none⟩ ∧ w.heap[(p id).1]? = some (Obj.cells c t fz) ∧ (p id).2 + (i + cap) * sz ≤ c.size) :
      VR F w p D (.sl id sz i n k) (.slice a n cap)
  | pt (id sz i off : Nat) (hid : D id) : VR F w p D (.pt id sz i off) (.pointer (some ⟨(p id).1, (p id).2 + i * sz + off, none⟩))
  | fn (f : Fn) (xs ys : List AV) (us vs : Array Value) (h1 : us.size = xs.length) (h2 : vs.size = ys.length) (h3 : ∀ j v, xs[j]? = some v → VR F w p D v (us.getD j undef))
      (h4 : ∀ j v, ys[j]? = some v → VR F w p D v (vs.getD j undef)) : VR F w p D (.fn f xs ys) (.func f us vs)
  | ifc (t : TypeId) (v : AV) (u : Value) (h : VR F w p D v u) : VR F w p D (.ifc t v) (.iface t u)
  | nilm : VR F w p D .nilm (.map none)
  | roe (sz : Nat) (a : Addr) (cap : Nat) : VR F w p D (.roe sz) (.slice (some a) 0 cap)
  | opt (t : Bool) (v : AV) (u : Value) (h1 : t = true → VR F w p D v u) (h2 : t = false → u = undef) : VR F w p D (.opt t v) u

theorem VR.mono {F F' : Nat → Prop} {w w' : World} {p p' : Place} {D D' : Nat → Prop} {v : AV} {u : Value} (h : VR F w p D v u)
    (hF : ∀ b, F b → F' b) (hw : ∀ b, F b → w'.heap[b]? = w.heap[b]?)
    (hc : ∀ (b : Nat) (c : Array Value) (t : TypeId) (fz : Nat × Nat), w.heap[b]? = some (Obj.cells c t fz) → ∃ (c' : Array Value) (t' : TypeId) (fz' : Nat × Nat), w'.heap[b]? = some (Obj.cells c' t' fz') ∧ c'.size = c.size)
    (hp : ∀ i, D i → p' i = p i) (hD : ∀ i, D i → D' i) : VR F' w' p' D' v u := by
  induction h with
  | any u => exact .any u
  | bool b => exact .bool b
  | int k n => exact .int k n
  | str s => exact .str s
  | nilp => exact .nilp
  | nils => exact .nils
  | nilf => exact .nilf
  | nili => exact .nili
  | agg cs us hs h ih => exact .agg cs us hs ih
  | tup cs us hs h ih => exact .tup cs us hs ih
  | rosNil sz => exact .rosNil sz
  | rosEmp sz a cap => exact .rosEmp sz a cap
  | ros sz es b o cap c t fz hb hFb hcap hsz hr h ih => exact .ros sz es b o cap c t fz ((hw b hFb).trans hb) (hF b hFb) hcap hsz hr ih
  | rop cs b o c t fz hb hFb hr h ih => exact .rop cs b o c t fz ((hw b hFb).trans hb) (hF b hFb) hr ih
  | sl id sz i n k a cap hid hn hk ha =>
    refine .sl id sz i n k a cap (hD _ hid) hn hk (ha.imp (fun h => h) ?_)
    rintro ⟨c, t, fz, h1, h2, h3⟩
    obtain ⟨c', t', fz', h4, h5⟩ := hc _ _ _ _ h2
    rw [hp _ hid]
    exact ⟨c', t', fz', h1, h4, h5 ▸ h3⟩
  | pt id sz i off hid => rw [← hp _ hid]; exact .pt id sz i off (hD _ hid)
  | fn f xs ys us vs h1 h2 h3 h4 ih3 ih4 => exact .fn f xs ys us vs h1 h2 ih3 ih4
  | ifc t v u h ih => exact .ifc t v u ih
  | nilm => exact .nilm
  | roe sz a cap => exact .roe sz a cap
  | opt t v u h1 h2 ih => exact .opt t v u ih h2

/-- A row of cells as a row of the store says. -/
structure RowOK (F : Nat → Prop) (w : World) (p : Place) (D : Nat → Prop) (r : Row) (b o : Nat) : Prop where
  ex : ∃ (c : Array Value) (t : TypeId) (fz : Nat × Nat), w.heap[b]? = some (Obj.cells c t fz) ∧ (fz.2 ≤ fz.1 ∨ c.size ≤ fz.1) ∧ o + r.es.length * r.sz ≤ c.size ∧
    ∀ i x j v, r.es[i]? = some x → x[j]? = some v → VR F w p D v (c.getD (o + i * r.sz + j) undef)
  sz : ∀ x ∈ r.es, x.length = r.sz

structure SRel (F : Nat → Prop) (w : World) (p : Place) (D : Nat → Prop) (rows : List (Nat × Row)) : Prop where
  row : ∀ id r, look rows id = some r → D id ∧ ¬ F (p id).1 ∧ RowOK F w p D r (p id).1 (p id).2
  apart : ∀ id id' r r', look rows id = some r → look rows id' = some r' → id ≠ id' → (p id).1 ≠ (p id').1
  old : ∀ b, F b → b < w.heap.size

/-- Everything that was there is as it was. -/
structure Grow (w w' : World) : Prop where
  os : w'.os = w.os
  tape : w'.tape = w.tape
  output : w'.output = w.output
  size : w.heap.size ≤ w'.heap.size
  same : ∀ b, b < w.heap.size → w'.heap[b]? = w.heap[b]?
theorem Grow.refl (w : World) : Grow w w := ⟨rfl, rfl, rfl, Nat.le_refl _, fun _ _ => rfl⟩
theorem Grow.trans {a b c : World} (h : Grow a b) (k : Grow b c) : Grow a c :=
  ⟨k.os.trans h.os, k.tape.trans h.tape, k.output.trans h.output, Nat.le_trans h.size k.size, fun i hi => (k.same i (Nat.lt_of_lt_of_le hi h.size)).trans (h.same i hi)⟩
theorem lt_of_heap {w : World} {b : Nat} {o : Obj} (h : w.heap[b]? = some o) : b < w.heap.size := (Array.getElem?_eq_some_iff.1 h).1
theorem Grow.cells {w w' : World} (h : Grow w w') {b : Nat} {o : Obj} (hb : w.heap[b]? = some o) : w'.heap[b]? = some o := (h.same b (lt_of_heap hb)).trans hb

theorem VR.grow {F : Nat → Prop} {w w' : World} {p p' : Place} {D D' : Nat → Prop} {v : AV} {u : Value} (h : VR F w p D v u) (hg : Grow w w') (hold : ∀ b, F b → b < w.heap.size)
    (hp : ∀ i, D i → p' i = p i) (hD : ∀ i, D i → D' i) : VR F w' p' D' v u :=
  h.mono (fun _ h => h) (fun b hb => hg.same b (hold b hb)) (fun b c t fz hb => ⟨c, t, fz, hg.cells hb, rfl⟩) hp hD

theorem RowOK.grow {F : Nat → Prop} {w w' : World} {p p' : Place} {D D' : Nat → Prop} {r : Row} {b o : Nat} (h : RowOK F w p D r b o) (hg : Grow w w') (hold : ∀ b, F b → b < w.heap.size)
    (hp : ∀ i, D i → p' i = p i) (hD : ∀ i, D i → D' i) : RowOK F w' p' D' r b o := by
  obtain ⟨c, t, fz, hb, hf, hr, hv⟩ := h.ex
  exact ⟨⟨c, t, fz, hg.cells hb, hf, hr, fun i x j v hx hj => (hv i x j v hx hj).grow hg hold hp hD⟩, h.sz⟩

theorem SRel.grow {F : Nat → Prop} {w w' : World} {p p' : Place} {D D' : Nat → Prop} {rows : List (Nat × Row)} (h : SRel F w p D rows) (hg : Grow w w')
    (hp : ∀ i, D i → p' i = p i) (hD : ∀ i, D i → D' i) : SRel F w' p' D' rows where
  row id r hl := by
    obtain ⟨h1, h2, h3⟩ := h.row id r hl
    rw [hp _ h1]
    exact ⟨hD _ h1, h2, h3.grow hg h.old hp hD⟩
  apart id id' r r' hl hl' hne := by
    rw [hp _ (h.row id r hl).1, hp _ (h.row id' r' hl').1]
    exact h.apart id id' r r' hl hl' hne
  old b hb := Nat.lt_of_lt_of_le (h.old b hb) hg.size

/-- An environment against the temporaries. -/
structure ERel (N : Nat) (F : Nat → Prop) (w : World) (p : Place) (D : Nat → Prop) (e : Env) (tmps : Array Value) : Prop where
  size : tmps.size = N
  val : ∀ t, VR F w p D (get e t) (tmps.getD t undef)

end Go.Proofs.Ytffiicopifmmfaa.Ai
