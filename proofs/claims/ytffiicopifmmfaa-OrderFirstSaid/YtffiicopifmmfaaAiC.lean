/-
  The operations, their types looked up: what each asks of abstract values, and what it gives. Definitions alone.
-/
import Derived.Test.YtffiicopifmmfaaAiB
namespace Go.Proofs.Ytffiicopifmmfaa.Ai
set_option linter.unusedSimpArgs false
set_option linter.unusedVariables false
set_option linter.unnecessarySimpa false
set_option linter.unusedSectionVars false
set_option linter.unusedVariables false

def mapO {α β : Type} (f : α → Option β) : List α → Option (List β)
  | [] => some []
  | x :: l => match f x, mapO f l with
    | some a, some b => some (a :: b)
    | _, _ => none

theorem mapO_some {α β : Type} {f : α → Option β} : ∀ {l : List α} {r : List β}, mapO f l = some r → r.length = l.length ∧ ∀ (j : Nat) (x : α), l[j]? = some x → ∃ y, f x = some y ∧ r[j]? = some y
  | [], r, h => by simp only [mapO, Option.some.injEq] at h; subst h; simp
  | x :: l, r, h => by
    simp only [mapO] at h
    split at h
    · rename_i a b ha hb
      simp only [Option.some.injEq] at h; subst h
      obtain ⟨h1, h2⟩ := mapO_some hb
      refine ⟨by simp [h1], fun j y hj => ?_⟩
      cases j with
      | zero => simp at hj; subst hj; exact ⟨a, ha, by simp⟩
      | succ j => simpa using h2 j y (by simpa using hj)
    · cases h

inductive Opd where
  | t (n : Nat)
  | c (v : AV)
  | f (id : FuncId)
  deriving Inhabited

def ofVal0 : Value → Option AV
  | .bool b => some (.bool b)
  | .int k n => some (.int k n)
  | .string s => some (.str s)
  | .pointer none => some .nilp
  | .slice none 0 0 => some .nils
  | .nilFunc => some .nilf
  | .nilIface => some .nili
  | .map none => some .nilm
  | _ => none
def ofVal : Value → Option AV
  | .agg cs => (mapO ofVal0 cs.toList).map .agg
  | v => ofVal0 v

def opd : Operand → Option Opd
  | .tmp t => some (.t t)
  | .const v => (ofVal v).map .c
  | .func f => some (.f f)
  | .global _ => none
def ev (e : Env) : Opd → AV
  | .t n => get e n
  | .c v => v
  | .f id => .fn (.func id) [] []

/-- An operand's value: what a guard has let through. -/
def AV.strip : AV → AV
  | .opt _ v => v.strip
  | v => v
def AV.live : AV → Prop
  | .opt t v => t = true ∧ v.live
  | _ => True

inductive SK where
  | b
  | i (k : IntKind)
  | s
  deriving Inhabited

inductive ROp where
  | mv (x : Opd)
  | pick (c a b : Opd)
  | nc (x : Opd)
  | alloc (z : List AV)
  | box (x : Opd)
  | build (z : List AV) (ps : List (Nat × Nat × Opd))
  | bslice (sz n : Nat) (z : List AV) (ps : List (Nat × Opd))
  | ld (agg : Bool) (sz : Nat) (x : Opd)
  | fa (off : Nat) (x : Opd)
  | fd (off : Nat) (agg : Bool) (sz : Nat) (x : Opd)
  | ias (sz : Nat) (x i : Opd)
  | iaa (len sz : Nat) (x i : Opd)
  | ixa (len sz : Nat) (agg : Bool) (x i : Opd)
  | ixs (x i : Opd)
  | ext (x : Opd) (i : Nat)
  | bin (op : BinOp) (x y : Opd)
  | eqb (neg : Bool) (x y : Opd)
  | eqn (neg : Bool) (x y : Opd)
  | not (x : Opd)
  | neg (x : Opd)
  | cv (k : IntKind) (x : Opd)
  | b2s (x : Opd)
  | s2b (x : Opd)
  | mkf (f : FuncId) (xs ys : List Opd)
  | mki (t : TypeId) (x : Opd)
  | len (x : Opd)
  | lens (x : Opd)
  | cap (x : Opd)
  | max2 (x y : Opd)
  | min2 (x y : Opd)
  | slc (sz : Nat) (x : Opd) (lo hi : Option Opd)
  | sls (x : Opd) (lo hi : Option Opd)
  | mks (sz bytes : Nat) (z : List AV) (n c : Opd)
  | st (sz : Nat) (a x : Opd)
  | app (sz bytes : Nat) (z : List AV) (x y : Opd)
  | eqv (neg : Bool) (l : List (Nat × SK)) (x y : Opd)
  | cal (f : FuncId) (xs : List Opd)
  | cav (f : Opd) (xs : List Opd)
  | pan (x : Opd)
  | tas (t : TypeId) (x : Opd)
  | eqi (neg : Bool) (x : Opd)
  deriving Inhabited

structure RO where
  dst : Option Nat
  guard : Option (Nat × Bool)
  op : ROp
  deriving Inhabited

section lite
variable (P : Program)

def zeroOf (t : TypeId) : Option (List AV) := ((P.info? t).bind (·.zero)).bind fun z => mapO ofVal0 z.cells.toList
def sizeAt (t : TypeId) : Option Nat := (P.info? t).map (·.size)
def isAggT (t : TypeId) : Option Bool := (P.underlying t).map fun | .struct _ | .array _ _ => true | _ => false
def optOpd : Option Operand → Option (Option Opd)
  | none => some none
  | some x => (opd x).map some

def liteB (b : Builtin) (ats : Array TypeId) (xs : List Operand) : Option ROp :=
  match b with
  | .len => match xs with
    | [x] => (opd x).bind fun x => match (ats[0]?).bind P.underlying with
      | some (.slice _) => some (.len x)
      | some .string => some (.lens x)
      | _ => none
    | _ => none
  | .cap => match xs with
    | [x] => (opd x).bind fun x => match (ats[0]?).bind P.underlying with
      | some (.slice _) => some (.cap x)
      | _ => none
    | _ => none
  | .max => match xs with
    | [x, y] => (opd x).bind fun x => (opd y).bind fun y => some (.max2 x y)
    | _ => none
  | .min => match xs with
    | [x, y] => (opd x).bind fun x => (opd y).bind fun y => some (.min2 x y)
    | _ => none
  | .append => match xs with
    | [x, y] => (opd x).bind fun x => (opd y).bind fun y => match (ats[0]?).bind P.underlying, (ats[1]?).bind P.underlying with
      | some (.slice e), some (.slice _) => (P.info? e).bind fun i => (zeroOf P e).bind fun z => some (.app i.size i.bytes z x y)
      | _, _ => none
    | _ => none
  | _ => none

def liteCall (c : Call) : Option ROp :=
  match c.callee with
  | .value f => match f with
    | .func f => (mapO opd c.args.toList).map (.cal f)
    | .tmp t => (mapO opd c.args.toList).map (.cav (.t t))
    | _ => none
  | .builtin b => liteB P b c.argTypes c.args.toList
  | _ => none

def liteOp (o : Op) : Option ROp :=
  match o with
  | .move x | .assign x => do some (.mv (← opd x))
  | .pick c a b => do some (.pick (← opd c) (← opd a) (← opd b))
  | .nilCheck x => do some (.nc (← opd x))
  | .alloc t => do some (.alloc (← zeroOf P t))
  | .box _ x => do some (.box (← opd x))
  | .load t x => do
    let g ← isAggT P t
    let s ← sizeAt P t
    if g || s == 1 then some (.ld g s (← opd x)) else none
  | .store t a x => do some (.st (← sizeAt P t) (← opd a) (← opd x))
  | .fieldAddr s x f =>
    match P.underlying s with
    | some (.struct fs) => do
      let fl ← fs[f]?
      let n ← sizeAt P fl.type
      if n = 0 then none else some (.fa fl.offset (← opd x))
    | _ => none
  | .field s x f =>
    match P.underlying s with
    | some (.struct fs) => do
      let fl ← fs[f]?
      let n ← sizeAt P fl.type
      let g ← isAggT P fl.type
      if g || n == 1 then some (.fd fl.offset g n (← opd x)) else none
    | _ => none
  | .indexAddr t x i =>
    match P.underlying t with
    | some (.slice e) => do some (.ias (← sizeAt P e) (← opd x) (← opd i))
    | some (.array n e) => do some (.iaa n (← sizeAt P e) (← opd x) (← opd i))
    | _ => none
  | .index t x i =>
    match P.underlying t with
    | some (.array n e) => do
      let s ← sizeAt P e
      let g ← isAggT P e
      if g || s == 1 then some (.ixa n s g (← opd x) (← opd i)) else none
    | some .string => do some (.ixs (← opd x) (← opd i))
    | _ => none
  | .extract x i => do some (.ext (← opd x) i)
  | .binOp op t x y _ =>
    match P.underlying t, op with
    | some .bool, .eql => do some (.eqb false (← opd x) (← opd y))
    | some .bool, .neq => do some (.eqb true (← opd x) (← opd y))
    | some (.slice _), .eql => do some (.eqn false (← opd x) (← opd y))
    | some (.slice _), .neq => do some (.eqn true (← opd x) (← opd y))
    | some (.int _), op => do some (.bin op (← opd x) (← opd y))
    | some .string, op => do some (.bin op (← opd x) (← opd y))
    | _, _ => none
  | .unOp .not _ x => do some (.not (← opd x))
  | .unOp .neg _ x => do some (.neg (← opd x))
  | .convert s d x => do
    let x ← opd x
    match P.underlying s, P.underlying d with
    | some (.int _), some (.int k) => some (.cv k x)
    | some (.slice e), some .string => if P.underlying e matches some (.int .u8) then some (.b2s x) else none
    | some .string, some (.slice e) => if P.underlying e matches some (.int .u8) then some (.s2b x) else none
    | _, _ => none
  | .makeFunc (.func f) xs ys => do some (.mkf f (← mapO opd xs.toList) (← mapO opd ys.toList))
  | .makeInterface t x => do
    match P.underlying t with
    | some (.interface _) => none
    | some _ => some (.mki t (← opd x))
    | none => none
  | .slice t x lo hi none =>
    match P.underlying t with
    | some (.slice e) => do some (.slc (← sizeAt P e) (← opd x) (← optOpd lo) (← optOpd hi))
    | some .string => do some (.sls (← opd x) (← optOpd lo) (← optOpd hi))
    | _ => none
  | .makeSlice t n c =>
    match P.underlying t with
    | some (.slice e) => do
      let i ← P.info? e
      some (.mks i.size i.bytes (← zeroOf P e) (← opd n) (← opd c))
    | _ => none
  | .build t ps => do
    let z ← zeroOf P t
    match P.underlying t with
    | some (.struct fs) => do
      let _ ← mapO (fun f => sizeAt P f.type) fs.toList
      let ps ← mapO (fun (i, x) => do
        let f ← fs[i]?
        some (f.offset, ← sizeAt P f.type, ← opd x)) ps.toList
      some (.build z ps)
    | some (.array _ e) => do
      let s ← sizeAt P e
      let ps ← mapO (fun (i, x) => do some (i * s, s, ← opd x)) ps.toList
      some (.build z ps)
    | _ => none
  | .buildSlice t n ps =>
    match P.underlying t with
    | some (.slice e) => do
      let s ← sizeAt P e
      let z ← zeroOf P e
      let ps ← mapO (fun (i, x) => do some (i, ← opd x)) ps.toList
      some (.bslice s n z ps)
    | _ => none
  | .call c => liteCall P c
  | _ => none

inductive RC where
  | skip
  | ret
  | exit (id : Nat)
  | seq (a b : RC)
  | cond (c : Opd) (a b : RC)
  | block (id : Nat) (b : RC)
  | loop (b : RC)
  | reg (p : Option Nat) (ops : List RO)
  deriving Inhabited
end lite
end Go.Proofs.Ytffiicopifmmfaa.Ai
