/-
  What each operation asks of abstract values, and what it gives. Definitions alone.
-/
import Derived.Test.YtffiicopifmmfaaAiC
namespace Go.Proofs.Ytffiicopifmmfaa.Ai
set_option linter.unusedSimpArgs false
set_option linter.unusedVariables false
set_option linter.unnecessarySimpa false
set_option linter.unusedSectionVars false
set_option linter.unusedVariables false

abbrev Rows := List (Nat × Row)

def sv (e : Env) (x : Opd) : AV := (ev e x).strip
def lv (e : Env) (x : Opd) : Prop := (ev e x).live

def rdc (rows : Rows) : AV → Nat → Prop
  | .rop cs, sz => sz ≤ cs.length
  | .pt id q i off, sz => match look rows id with
    | some r => r.sz = q ∧ i < r.es.length ∧ off + sz ≤ q
    | none => False
  | _, _ => False
def rdv (rows : Rows) : AV → Nat → List AV
  | .rop cs, sz => cs.take sz
  | .pt id q i off, sz => match look rows id with
    | some r => ((r.es.getD i []).drop off).take sz
    | none => []
  | _, _ => []

def AV.known : AV → Prop
  | .any => False
  | .opt _ _ => False
  | _ => True

def sel (t : Bool) : AV → AV → AV
  | .bool p, .bool q => .bool (bif t then p else q)
  | x, y => bif t then x else y

def splice (cs : List AV) (off : Nat) (part : List AV) : List AV := cs.take off ++ part ++ cs.drop (off + part.length)

def intC (op : BinOp) (k k' : IntKind) (b : Int) : Prop :=
  match op with
  | .shl | .shr => 0 ≤ b
  | .quo | .rem => k = k' ∧ b ≠ 0
  | _ => k = k'
def bits2 (k : IntKind) (r : BitVec k.bits) : AV := .int k (k.wrap r.toNat)
def intV (op : BinOp) (k : IntKind) (a b : Int) : AV :=
  match op with
  | .add => .int k (k.wrap (a + b))
  | .sub => .int k (k.wrap (a - b))
  | .mul => .int k (k.wrap (a * b))
  | .quo => .int k (k.wrap (a.tdiv b))
  | .rem => .int k (a.tmod b)
  | .and => bits2 k (BitVec.ofInt k.bits a &&& BitVec.ofInt k.bits b)
  | .or => bits2 k (BitVec.ofInt k.bits a ||| BitVec.ofInt k.bits b)
  | .xor => bits2 k (BitVec.ofInt k.bits a ^^^ BitVec.ofInt k.bits b)
  | .andNot => bits2 k (BitVec.ofInt k.bits a &&& ~~~ BitVec.ofInt k.bits b)
  | .shl => .int k (k.wrap (a * 2 ^ (min b.toNat k.bits)))
  | .shr => .int k (a.fdiv (2 ^ (min b.toNat k.bits)))
  | .eql => .bool (a == b)
  | .neq => .bool (a != b)
  | .lss => .bool (decide (a < b))
  | .leq => .bool (decide (a ≤ b))
  | .gtr => .bool (decide (a > b))
  | .geq => .bool (decide (a ≥ b))
def strC (op : BinOp) (a b : ByteArray) : Prop :=
  match op with
  | .add => ((a.size + b.size : Nat) : Int) ≤ IntKind.i64.max
  | .eql | .neq | .lss | .leq | .gtr | .geq => True
  | _ => False
def strV (op : BinOp) (a b : ByteArray) : AV :=
  match op with
  | .add => .str (a ++ b)
  | .eql => .bool (a.toList == b.toList)
  | .neq => .bool !(a.toList == b.toList)
  | .lss => .bool (Op.bytesLess a.toList b.toList)
  | .leq => .bool (Op.bytesLess a.toList b.toList || a.toList == b.toList)
  | .gtr => .bool !(Op.bytesLess a.toList b.toList || a.toList == b.toList)
  | .geq => .bool !(Op.bytesLess a.toList b.toList)
  | _ => .any
def binC (op : BinOp) : AV → AV → Prop
  | .int k a, .int k' b => intC op k k' b
  | .str a, .str b => strC op a b
  | _, _ => False
def binV (op : BinOp) : AV → AV → AV
  | .int k a, .int _ b => intV op k a b
  | .str a, .str b => strV op a b
  | _, _ => .any

/-- Is a slice nil? -/
def nilC : AV → Prop
  | .nils | .roe _ => True
  | .ros _ es => es ≠ []
  | .sl _ _ _ n k => 0 < n ∨ ∃ m, k = some (m + 1)
  | _ => False
def nilV : AV → Bool
  | .nils => true
  | _ => false

def byteOf : AV → UInt8
  | .int _ n => UInt8.ofNat n.toNat
  | _ => 0
def isByte : AV → Prop
  | .int .u8 _ => True
  | _ => False

/-- A slice's elements (of an immutable one, of a row's part). -/
def elsC (rows : Rows) (sz : Nat) : AV → Prop
  | .ros q _ => q = sz
  | .nils => True
  | .roe _ => True
  | .sl id q i n _ => match look rows id with
    | some r => r.sz = q ∧ q = sz ∧ i + n ≤ r.es.length
    | none => False
  | _ => False
def elsV (rows : Rows) : AV → List (List AV)
  | .ros _ es => es
  | .sl id _ i n _ => match look rows id with
    | some r => (r.es.drop i).take n
    | none => []
  | _ => []

def bound (e : Env) (d : Nat) : Option Opd → AV
  | none => .int .i64 d
  | some x => sv e x
def boundL (e : Env) : Option Opd → Prop
  | none => True
  | some x => lv e x

def sliceC (n : Nat) : AV → AV → Prop
  | .int _ l, .int _ h => 0 ≤ l ∧ l ≤ h ∧ h ≤ n
  | _, _ => False
def lenV : AV → Int
  | .ros _ es => es.length
  | .sl _ _ _ n _ => n
  | _ => 0
def lenC : AV → Prop
  | .ros _ _ | .sl _ _ _ _ _ | .nils | .roe _ => True
  | _ => False
def intOr : AV → Int
  | .int _ n => n
  | _ => 0

def partsC (e : Env) (n : Nat) : List (Nat × Nat × Opd) → Prop
  | [] => True
  | (off, sz, x) :: l => (lv e x ∧ (sv e x).known ∧ (sv e x).cells.length = sz ∧ off + sz ≤ n) ∧ partsC e n l
def partsV (e : Env) : List AV → List (Nat × Nat × Opd) → List AV
  | cs, [] => cs
  | cs, (off, _, x) :: l => partsV e (splice cs off (sv e x).cells) l
def elemsC (e : Env) (sz n : Nat) : List (Nat × Opd) → Prop
  | [] => True
  | (i, x) :: l => (lv e x ∧ (sv e x).known ∧ (sv e x).cells.length = sz ∧ i < n) ∧ elemsC e sz n l
def elemsV (e : Env) : List (List AV) → List (Nat × Opd) → List (List AV)
  | es, [] => es
  | es, (i, x) :: l => elemsV e (es.set i (sv e x).cells) l
def allLv (e : Env) : List Opd → Prop
  | [] => True
  | x :: l => lv e x ∧ allLv e l

def ncC : AV → Prop
  | .rop _ | .pt _ _ _ _ | .fn (.func _) _ _ => True
  | _ => False
def pickC (e : Env) (a b : Opd) : AV → Prop
  | .bool t => (t = true → lv e a) ∧ (t = false → lv e b)
  | _ => False
def pickV (e : Env) (a b : Opd) : AV → AV
  | .bool t => sel t (sv e a) (sv e b)
  | _ => .any
def faC (off : Nat) : AV → Prop
  | .rop cs => off ≤ cs.length
  | .pt _ _ _ _ => True
  | _ => False
def faV (off : Nat) : AV → AV
  | .rop cs => .rop (cs.drop off)
  | .pt id q i o => .pt id q i (o + off)
  | _ => .any
def partV (g : Bool) (off sz : Nat) (cs : List AV) : AV := bif g then .agg ((cs.drop off).take sz) else (cs.drop off).headD .any
def fdC (off sz : Nat) : AV → Prop
  | .agg cs => off + sz ≤ cs.length
  | _ => False
def fdV (off : Nat) (g : Bool) (sz : Nat) : AV → AV
  | .agg cs => partV g off sz cs
  | _ => .any
def iasC (sz : Nat) : AV → AV → Prop
  | .ros q es, .int _ n => q = sz ∧ 0 ≤ n ∧ n < es.length
  | .sl _ q _ m _, .int _ n => q = sz ∧ 0 ≤ n ∧ n < m
  | _, _ => False
def iasV : AV → AV → AV
  | .ros _ es, .int _ n => .rop (es.getD n.toNat [])
  | .sl id q j _ _, .int _ n => .pt id q (j + n.toNat) 0
  | _, _ => .any
def iaaC (len sz : Nat) : AV → AV → Prop
  | .rop cs, .int _ n => 0 ≤ n ∧ n < len ∧ n.toNat * sz ≤ cs.length
  | .pt _ _ _ _, .int _ n => 0 ≤ n ∧ n < len
  | _, _ => False
def iaaV (sz : Nat) : AV → AV → AV
  | .rop cs, .int _ n => .rop (cs.drop (n.toNat * sz))
  | .pt id q j o, .int _ n => .pt id q j (o + n.toNat * sz)
  | _, _ => .any
def ixaC (len sz : Nat) : AV → AV → Prop
  | .agg cs, .int _ n => 0 ≤ n ∧ n < len ∧ n.toNat * sz + sz ≤ cs.length
  | _, _ => False
def ixaV (sz : Nat) (g : Bool) : AV → AV → AV
  | .agg cs, .int _ n => partV g (n.toNat * sz) sz cs
  | _, _ => .any
def ixsC : AV → AV → Prop
  | .str s, .int _ n => 0 ≤ n ∧ n < s.size
  | _, _ => False
def ixsV : AV → AV → AV
  | .str s, .int _ n => .int .u8 ((s.data.toList.getD n.toNat 0).toNat : Int)
  | _, _ => .any
def extC (i : Nat) : AV → Prop
  | .tup vs => i < vs.length
  | _ => False
def extV (i : Nat) : AV → AV
  | .tup vs => vs.getD i .any
  | _ => .any
def boolC : AV → Prop
  | .bool _ => True
  | _ => False
def intIs : AV → Prop
  | .int _ _ => True
  | _ => False
def strIs : AV → Prop
  | .str _ => True
  | _ => False
def nilsIs : AV → Prop
  | .nils => True
  | _ => False
def eqbV (g : Bool) : AV → AV → AV
  | .bool a, .bool b => .bool (bif g then !(a == b) else (a == b))
  | _, _ => .any
def notV : AV → AV
  | .bool b => .bool !b
  | _ => .any
def negV : AV → AV
  | .int k n => .int k (k.wrap (0 - n))
  | _ => .any
def cvV (k : IntKind) : AV → AV
  | .int _ n => .int k (k.wrap n)
  | _ => .any
def s2bV (k : Nat) : AV → AV
  | .str s => .sl k 1 0 s.size none
  | _ => .any
def s2bR : AV → Option Row
  | .str s => some ⟨1, s.data.toList.map fun b => [.int .u8 (b.toNat : Int)]⟩
  | _ => none
def lensV : AV → AV
  | .str s => .int .i64 s.size
  | _ => .any
def capC : AV → Prop
  | .nils => True
  | .sl _ _ _ _ (some _) => True
  | _ => False
def capV : AV → AV
  | .nils => .int .i64 0
  | .sl _ _ _ _ (some m) => .int .i64 m
  | _ => .any
def maxV : AV → AV → AV
  | .int k a, .int _ b => .int k (if b > a then b else a)
  | _, _ => .any
def minV : AV → AV → AV
  | .int k a, .int _ b => .int k (if b < a then b else a)
  | _, _ => .any
def slcSz (sz : Nat) : AV → Prop
  | .ros q _ | .sl _ q _ _ _ => q = sz
  | _ => True
def slsC (e : Env) (lo hi : Option Opd) : AV → Prop
  | .str s => sliceC s.size (bound e 0 lo) (bound e s.size hi)
  | _ => False
def slsV (e : Env) (lo hi : Option Opd) : AV → AV
  | .str s => .str (s.extract (intOr (bound e 0 lo)).toNat (intOr (bound e s.size hi)).toNat)
  | _ => .any
def mksC (bytes : Nat) : AV → AV → Prop
  | .int _ a, .int _ b => 0 ≤ a ∧ a ≤ b ∧ b * bytes ≤ 2 ^ 47 ∧ b < 2 ^ 63
  | _, _ => False
def sliceV (k : AV) (l h : Nat) : AV :=
  match k with
  | .ros q es => .ros q ((es.drop l).take (h - l))
  | .sl id q i n c => .sl id q (i + l) (h - l) (match c with
    | some m => some (m - l)
    | none => none)
  | v => v

def skC : SK → AV → Prop
  | .b, .bool _ => True
  | .i k, .int k' _ => k = k'
  | .s, .str _ => True
  | _, _ => False
def skE : AV → AV → Bool
  | .bool a, .bool b => a == b
  | .int _ a, .int _ b => a == b
  | .str a, .str b => a.toList == b.toList
  | _, _ => false
def eqvC : List (Nat × SK) → List AV → List AV → Prop
  | [], _, _ => True
  | (o, k) :: l, cs, ds => (o < cs.length ∧ o < ds.length ∧ skC k (cs.getD o .any) ∧ skC k (ds.getD o .any)) ∧ eqvC l cs ds
def eqvV : List (Nat × SK) → List AV → List AV → Bool
  | [], _, _ => true
  | (o, k) :: l, cs, ds => skE (cs.getD o .any) (ds.getD o .any) && eqvV l cs ds
def eqaC (l : List (Nat × SK)) : AV → AV → Prop
  | .agg cs, .agg ds => eqvC l cs ds
  | _, _ => False
def eqaV (g : Bool) (l : List (Nat × SK)) : AV → AV → AV
  | .agg cs, .agg ds => .bool (bif g then !(eqvV l cs ds) else eqvV l cs ds)
  | _, _ => .any

def tasC (t : TypeId) : AV → Prop
  | .ifc t' _ => t' = t
  | _ => False
def tasV : AV → AV
  | .ifc _ v => v
  | _ => .any
def ifcIs : AV → Prop
  | .ifc _ _ | .nili => True
  | _ => False
def niliV : AV → Bool
  | .nili => true
  | _ => false

def pcond (e : Env) (rows : Rows) : ROp → Prop
  | .mv _ => True
  | .pick c a b => lv e c ∧ pickC e a b (sv e c)
  | .nc x => lv e x ∧ ncC (sv e x)
  | .alloc _ => True
  | .box x => lv e x ∧ (sv e x).known
  | .build z ps => partsC e z.length ps
  | .bslice sz n z ps => z.length = sz ∧ n * sz ≤ 2 ^ 24 ∧ elemsC e sz n ps
  | .ld _ sz x => lv e x ∧ rdc rows (sv e x) sz
  | .fa off x => lv e x ∧ faC off (sv e x)
  | .fd off _ sz x => lv e x ∧ fdC off sz (sv e x)
  | .ias sz x i => lv e x ∧ lv e i ∧ iasC sz (sv e x) (sv e i)
  | .iaa len sz x i => lv e x ∧ lv e i ∧ iaaC len sz (sv e x) (sv e i)
  | .ixa len sz _ x i => lv e x ∧ lv e i ∧ ixaC len sz (sv e x) (sv e i)
  | .ixs x i => lv e x ∧ lv e i ∧ ixsC (sv e x) (sv e i)
  | .ext x i => lv e x ∧ extC i (sv e x)
  | .bin op x y => lv e x ∧ lv e y ∧ binC op (sv e x) (sv e y)
  | .eqb _ x y => lv e x ∧ lv e y ∧ boolC (sv e x) ∧ boolC (sv e y)
  | .eqv _ l x y => lv e x ∧ lv e y ∧ eqaC l (sv e x) (sv e y)
  | .eqn _ x y => lv e x ∧ lv e y ∧ nilC (sv e x) ∧ nilsIs (sv e y)
  | .not x => lv e x ∧ boolC (sv e x)
  | .neg x => lv e x ∧ intIs (sv e x)
  | .cv _ x => lv e x ∧ intIs (sv e x)
  | .b2s x => lv e x ∧ elsC rows 1 (sv e x) ∧ ∀ c ∈ elsV rows (sv e x), ∃ v, c = [v] ∧ isByte v
  | .s2b x => lv e x ∧ strIs (sv e x)
  | .mkf _ xs ys => allLv e xs ∧ allLv e ys
  | .mki _ x => lv e x
  | .len x => lv e x ∧ lenC (sv e x)
  | .lens x => lv e x ∧ strIs (sv e x)
  | .cap x => lv e x ∧ capC (sv e x)
  | .max2 x y | .min2 x y => lv e x ∧ lv e y ∧ intIs (sv e x) ∧ intIs (sv e y)
  | .slc sz x lo hi => lv e x ∧ boundL e lo ∧ boundL e hi ∧ lenC (sv e x) ∧ slcSz sz (sv e x) ∧ sliceC (lenV (sv e x)).toNat (bound e 0 lo) (bound e (lenV (sv e x)).toNat hi)
  | .sls x lo hi => lv e x ∧ boundL e lo ∧ boundL e hi ∧ slsC e lo hi (sv e x)
  | .mks sz bytes z n c => lv e n ∧ lv e c ∧ z.length = sz ∧ mksC bytes (sv e n) (sv e c)
  | .st _ _ _ | .app _ _ _ _ _ | .cal _ _ | .cav _ _ | .pan _ => False
  | .tas t x => lv e x ∧ tasC t (sv e x)
  | .eqi _ x => lv e x ∧ ifcIs (sv e x)

def pval (e : Env) (rows : Rows) (k : Nat) : ROp → AV
  | .mv x => ev e x
  | .pick c a b => pickV e a b (sv e c)
  | .nc x => sv e x
  | .alloc z => .pt k z.length 0 0
  | .box x => .pt k (sv e x).cells.length 0 0
  | .build z ps => .agg (partsV e z ps)
  | .bslice sz n z ps => .sl k sz 0 n (some n)
  | .ld g sz x => bif g then .agg (rdv rows (sv e x) sz) else (rdv rows (sv e x) sz).headD .any
  | .fa off x => faV off (sv e x)
  | .fd off g sz x => fdV off g sz (sv e x)
  | .ias sz x i => iasV (sv e x) (sv e i)
  | .iaa len sz x i => iaaV sz (sv e x) (sv e i)
  | .ixa len sz g x i => ixaV sz g (sv e x) (sv e i)
  | .ixs x i => ixsV (sv e x) (sv e i)
  | .ext x i => extV i (sv e x)
  | .bin op x y => binV op (sv e x) (sv e y)
  | .eqb g x y => eqbV g (sv e x) (sv e y)
  | .eqv g l x y => eqaV g l (sv e x) (sv e y)
  | .eqn g x y => .bool (bif g then !(nilV (sv e x)) else nilV (sv e x))
  | .not x => notV (sv e x)
  | .neg x => negV (sv e x)
  | .cv k x => cvV k (sv e x)
  | .b2s x => .str ⟨((elsV rows (sv e x)).map fun c => byteOf (c.headD .any)).toArray⟩
  | .s2b x => s2bV k (sv e x)
  | .mkf f xs ys => .fn (.func f) (xs.map (sv e)) (ys.map (sv e))
  | .mki t x => .ifc t (sv e x)
  | .len x => .int .i64 (lenV (sv e x))
  | .lens x => lensV (sv e x)
  | .cap x => capV (sv e x)
  | .max2 x y => maxV (sv e x) (sv e y)
  | .min2 x y => minV (sv e x) (sv e y)
  | .slc _ x lo hi => sliceV (sv e x) (intOr (bound e 0 lo)).toNat (intOr (bound e (lenV (sv e x)).toNat hi)).toNat
  | .sls x lo hi => slsV e lo hi (sv e x)
  | .mks sz bytes z n c => .sl k sz 0 (intOr (sv e n)).toNat (some (intOr (sv e c)).toNat)
  | .st _ _ _ | .app _ _ _ _ _ | .cal _ _ | .cav _ _ | .pan _ => .any
  | .tas t x => tasV (sv e x)
  | .eqi g x => .bool (bif g then !(niliV (sv e x)) else niliV (sv e x))

def prow (e : Env) (rows : Rows) : ROp → Option Row
  | .alloc z => some ⟨z.length, [z]⟩
  | .box x => some ⟨(sv e x).cells.length, [(sv e x).cells]⟩
  | .bslice sz n z ps => some ⟨sz, elemsV e (List.replicate n z) ps⟩
  | .s2b x => s2bR (sv e x)
  | .mks sz bytes z n c => some ⟨sz, List.replicate (intOr (sv e c)).toNat z⟩
  | _ => none
end Go.Proofs.Ytffiicopifmmfaa.Ai
