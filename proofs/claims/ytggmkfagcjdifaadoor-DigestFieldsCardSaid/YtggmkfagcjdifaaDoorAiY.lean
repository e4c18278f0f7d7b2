/-
  The evaluator, staged: what depends on the text alone is laid open once (for the kernel's sake). Plain facts, no condition.
-/
import Derived.Test.YtggmkfagcjdifaaDoorAiX
namespace Go.Proofs.YtggmkfagcjdifaaDoor.Ai
set_option linter.unusedSimpArgs false
set_option linter.unusedVariables false
set_option linter.unnecessarySimpa false
set_option linter.unusedSectionVars false
set_option linter.unusedVariables false

structure Cop where
  run : Env → Store → Option (AO × Store)
structure B2 where
  run : AV → AV → Option AV
structure Sq where
  run : Env → Store → Option (AX × Env × Store)
structure Od where
  run : Env → AV
structure Ob where
  run : Env → Bool

/-- Look-ups that the kernel does at once. -/
def getF : Env → Nat → AV
  | [], _ => .any
  | (k, v) :: l, t => bif Nat.beq k t then v else getF l t
theorem beqF (a b : Nat) : Nat.beq a b = (a == b) := by
  rw [Bool.eq_iff_iff]; simp
theorem getF_eq : ∀ (e : Env) (t : Nat), getF e t = get e t
  | [], _ => rfl
  | (k, v) :: l, t => by simp only [getF, get, getF_eq l t, beqF]
def lookF : Rows → Nat → Option Row
  | [], _ => none
  | (k, r) :: l, id => bif Nat.beq k id then some r else lookF l id
theorem lookF_eq : ∀ (r : Rows) (t : Nat), lookF r t = look r t
  | [], _ => rfl
  | (k, v) :: l, t => by simp only [lookF, look, lookF_eq l t, beqF]
def overF : Rows → Nat → Row → Rows
  | [], _, _ => []
  | (k, q) :: l, id, r => bif Nat.beq k id then (k, r) :: l else (k, q) :: overF l id r
theorem overF_eq : ∀ (r : Rows) (t : Nat) (q : Row), overF r t q = over r t q
  | [], _, _ => rfl
  | (k, v) :: l, t, q => by simp only [overF, over, overF_eq l t q, beqF]

/-- An operand's value, if it is there. -/
def liveO (v : AV) : Option AV := match v with
  | .opt t w => bif t && w.liveB then some w.strip else none
  | v => some v
theorem liveO_eq (v : AV) : liveO v = bif v.liveB then some v.strip else none := by cases v <;> rfl
structure Oo where
  run : Env → Option AV
def oS : Opd → Oo
  | .t n => ⟨fun e => liveO (getF e n)⟩
  | .c v => ⟨fun _ => liveO v⟩
  | .f id => ⟨fun _ => some (.fn (.func id) [] [])⟩
  | .g n => ⟨fun _ => some (.rop (gcells n))⟩
theorem oS_eq (x : Opd) (e : Env) : (oS x).run e = bif lvB e x then some (sv e x) else none := by
  cases x with
  | t n => simp only [oS, getF_eq, liveO_eq, lvB, sv, ev]
  | c v => simp only [oS, liveO_eq, lvB, sv, ev]
  | f id => rfl
  | g n => rfl
def evS1 : Opd → Od
  | .t n => ⟨fun e => getF e n⟩
  | .c v => ⟨fun _ => v⟩
  | .f id => ⟨fun _ => .fn (.func id) [] []⟩
  | .g n => ⟨fun _ => .rop (gcells n)⟩
theorem evS1_eq (x : Opd) (e : Env) : (evS1 x).run e = ev e x := by cases x <;> first | rfl | exact getF_eq _ _
def allO (e : Env) : List Opd → Option (List AV)
  | [] => some []
  | x :: l => match (oS x).run e with
    | some v => match allO e l with
      | some vs => some (v :: vs)
      | none => none
    | none => none
theorem allO_eq (e : Env) : ∀ l : List Opd, allO e l = bif allLvB e l then some (l.map (sv e)) else none
  | [] => rfl
  | x :: l => by
    simp only [allO, allLvB, oS_eq, allO_eq e l]
    cases lvB e x <;> cases allLvB e l <;> rfl

def ldO (rows : Rows) (g : Bool) (sz : Nat) (v : AV) : Option AV :=
  match v with
  | .rop cs => bif Nat.ble sz cs.length then some (bif g then .agg (cs.take sz) else (cs.take sz).headD .any) else none
  | .pt id q i off => match lookF rows id with
    | some r => bif Nat.beq r.sz q && Nat.blt i r.es.length && Nat.ble (off + sz) q then some (bif g then .agg (((r.es.getD i []).drop off).take sz) else (((r.es.getD i []).drop off).take sz).headD .any) else none
    | none => none
  | _ => none
theorem bleF (a b : Nat) : Nat.ble a b = decide (a ≤ b) := by rw [Bool.eq_iff_iff]; simp
theorem bltF (a b : Nat) : Nat.blt a b = decide (a < b) := by rw [Bool.eq_iff_iff]; simp
theorem ldO_eq (rows : Rows) (g : Bool) (sz : Nat) (v : AV) : ldO rows g sz v = bif rdB rows v sz then some (bif g then .agg (rdv rows v sz) else (rdv rows v sz).headD .any) else none := by
  cases v <;> try rfl
  · simp only [ldO, rdB, rdv, bleF]
  · rename_i id q i off
    simp only [ldO, rdB, rdv, lookF_eq, bleF, bltF, beqF]
    cases look rows id with
    | none => rfl
    | some r =>
      cases hq : r.sz == q with
      | false => simp only [hq, Bool.false_and, cond_false]
      | true => simp only [hq, cond_true]
def faO (off : Nat) (v : AV) : Option AV :=
  match v with
  | .rop cs => bif Nat.ble off cs.length then some (.rop (cs.drop off)) else none
  | .pt id q i o => some (.pt id q i (o + off))
  | _ => none
theorem faO_eq (off : Nat) (v : AV) : faO off v = bif faB off v then some (faV off v) else none := by cases v <;> first | rfl | simp only [faO, faB, faV, bleF]
def iasO (sz : Nat) (x y : AV) : Option AV :=
  match x with
  | .ros q es => match y with
    | .int _ n => bif Nat.beq q sz && decide (0 ≤ n) && decide (n < es.length) then some (.rop (es.getD n.toNat [])) else none
    | _ => none
  | .sl id q j m _ => match y with
    | .int _ n => bif Nat.beq q sz && decide (0 ≤ n) && decide (n < m) then some (.pt id q (j + n.toNat) 0) else none
    | _ => none
  | _ => none
theorem iasO_eq (sz : Nat) (x y : AV) : iasO sz x y = bif iasB sz x y then some (iasV x y) else none := by
  cases x <;> try rfl
  all_goals cases y <;> first | rfl | simp only [iasO, iasB, iasV, beqF]
def stO (rows : Rows) (sz : Nat) (a x : AV) : Option Rows :=
  match a with
  | .pt id q i off => match lookF rows id with
    | some r => bif Nat.beq r.sz q && Nat.blt i r.es.length && Nat.ble (off + sz) q && (knownB x && Nat.beq x.cells.length sz && x.cells.all oneB) then some (overF rows id ⟨r.sz, r.es.set i (splice (r.es.getD i []) off x.cells)⟩) else none
    | none => none
  | _ => none
theorem stO_eq (rows : Rows) (sz : Nat) (a x : AV) : stO rows sz a x = bif stB rows sz a x then some (stR rows a x) else none := by
  cases a <;> try rfl
  rename_i id q i off
  simp only [stO, stB, stR, lookF_eq, bleF, bltF, beqF, overF_eq]
  cases look rows id with
  | none => rfl
  | some r => simp only [Bool.and_assoc]

/-- Two numbers of one kind. -/
def nn (f : IntKind → Int → Int → AV) : AV → AV → Option AV
  | .int k a, .int k' b => bif decide (k = k') then some (f k a b) else none
  | _, _ => none
def ns (f : IntKind → Int → Int → AV) (g : ByteArray → ByteArray → AV) : AV → AV → Option AV
  | .int k a, .int k' b => bif decide (k = k') then some (f k a b) else none
  | .str a, .str b => some (g a b)
  | _, _ => none
def gen (op : BinOp) (x y : AV) : Option AV := bif binB op x y then some (binV op x y) else none
def binS : BinOp → B2
  | .add => ⟨gen .add⟩
  | .sub => ⟨nn fun k a b => .int k (k.wrap (a - b))⟩
  | .mul => ⟨nn fun k a b => .int k (k.wrap (a * b))⟩
  | .and => ⟨nn fun k a b => bits2 k (BitVec.ofInt k.bits a &&& BitVec.ofInt k.bits b)⟩
  | .or => ⟨nn fun k a b => bits2 k (BitVec.ofInt k.bits a ||| BitVec.ofInt k.bits b)⟩
  | .xor => ⟨nn fun k a b => bits2 k (BitVec.ofInt k.bits a ^^^ BitVec.ofInt k.bits b)⟩
  | .andNot => ⟨nn fun k a b => bits2 k (BitVec.ofInt k.bits a &&& ~~~ BitVec.ofInt k.bits b)⟩
  | .eql => ⟨ns (fun _ a b => .bool (a == b)) fun a b => .bool (a.toList == b.toList)⟩
  | .neq => ⟨ns (fun _ a b => .bool (a != b)) fun a b => .bool !(a.toList == b.toList)⟩
  | .lss => ⟨ns (fun _ a b => .bool (decide (a < b))) fun a b => .bool (Op.bytesLess a.toList b.toList)⟩
  | .leq => ⟨ns (fun _ a b => .bool (decide (a ≤ b))) fun a b => .bool (Op.bytesLess a.toList b.toList || a.toList == b.toList)⟩
  | .gtr => ⟨ns (fun _ a b => .bool (decide (a > b))) fun a b => .bool !(Op.bytesLess a.toList b.toList || a.toList == b.toList)⟩
  | .geq => ⟨ns (fun _ a b => .bool (decide (a ≥ b))) fun a b => .bool !(Op.bytesLess a.toList b.toList)⟩
  | .quo => ⟨gen .quo⟩
  | .rem => ⟨gen .rem⟩
  | .shl => ⟨gen .shl⟩
  | .shr => ⟨gen .shr⟩
theorem binS_eq (op : BinOp) (x y : AV) : (binS op).run x y = gen op x y := by
  cases op <;> try rfl
  all_goals (cases x <;> try rfl) <;> (cases y <;> rfl)

def addI (s : Store) : Store := ⟨s.nx + 1, s.rows⟩
theorem addI_eq (s : Store) : addI s = next s none := rfl
def retI (v : AV) (s : Store) : Option (AO × Store) := some (.ret v, addI s)

def retO (o : Option AV) (s : Store) : Option (AO × Store) := match o with
  | some v => retI v s
  | none => none
def un (x : Oo) (f : AV → Option AV) : Cop := ⟨fun e s => match x.run e with
  | some v => retO (f v) s
  | none => none⟩
def bi (x y : Oo) (f : AV → AV → Option AV) : Cop := ⟨fun e s => match x.run e with
  | some v => match y.run e with
    | some u => retO (f v u) s
    | none => none
  | none => none⟩
def cop (a : Ev0) (b : Ev1) (im : Bool) : ROp → Cop
  | .mv x => ⟨fun e s => retI ((evS1 x).run e) s⟩
  | .nc x => un (oS x) fun v => bif ncB v then some v else none
  | .ld g sz x => ⟨fun e s => match (oS x).run e with
    | some v => retO (ldO s.rows g sz v) s
    | none => none⟩
  | .fa off x => un (oS x) (faO off)
  | .fd off g sz x => un (oS x) fun v => bif fdB off sz v then some (fdV off g sz v) else none
  | .ias sz x i => bi (oS x) (oS i) (iasO sz)
  | .ext x i => un (oS x) fun v => bif extB i v then some (extV i v) else none
  | .bin op x y => bi (oS x) (oS y) (binS op).run
  | .not x => un (oS x) fun v => bif boolB v then some (notV v) else none
  | .cv k x => un (oS x) fun v => bif intIsB v then some (cvV k v) else none
  | .len x => un (oS x) fun v => bif lenB v then some (.int .i64 (lenV v)) else none
  | .st sz x y => ⟨fun e s => match (oS x).run e with
    | some v => match (oS y).run e with
      | some u => match stO s.rows sz v u with
        | some rows => some (.ret .any, ⟨s.nx + 1, rows⟩)
        | none => none
      | none => none
    | none => none⟩
  | .cal f xs => ⟨fun e s => match allO e xs with
    | some vs => callE a b f vs s
    | none => none⟩
  | op => ⟨fun e s => opE a b im op e s⟩

theorem cop_eq (a : Ev0) (b : Ev1) (im : Bool) (op : ROp) (e : Env) (s : Store) : (cop a b im op).run e s = opE a b im op e s := by
  cases op <;> simp only [cop, un, bi, oS_eq, evS1_eq, ldO_eq, faO_eq, iasO_eq, stO_eq, allO_eq, binS_eq, gen, opE, pcB, pval, prow, next, push, retO, retI, addI] <;> try rfl
  case nc x => cases lvB e x <;> simp only [Bool.false_and, Bool.true_and, cond_false, cond_true]; cases ncB (sv e x) <;> rfl
  case ld g sz x => cases lvB e x <;> simp only [Bool.false_and, Bool.true_and, cond_false, cond_true]; cases rdB s.rows (sv e x) sz <;> rfl
  case fa off x => cases lvB e x <;> simp only [Bool.false_and, Bool.true_and, cond_false, cond_true]; cases faB off (sv e x) <;> rfl
  case fd off g sz x => cases lvB e x <;> simp only [Bool.false_and, Bool.true_and, cond_false, cond_true]; cases fdB off sz (sv e x) <;> rfl
  case ext x i => cases lvB e x <;> simp only [Bool.false_and, Bool.true_and, cond_false, cond_true]; cases extB i (sv e x) <;> rfl
  case not x => cases lvB e x <;> simp only [Bool.false_and, Bool.true_and, cond_false, cond_true]; cases boolB (sv e x) <;> rfl
  case cv k x => cases lvB e x <;> simp only [Bool.false_and, Bool.true_and, cond_false, cond_true]; cases intIsB (sv e x) <;> rfl
  case len x => cases lvB e x <;> simp only [Bool.false_and, Bool.true_and, cond_false, cond_true]; cases lenB (sv e x) <;> rfl
  case ias sz x i => cases lvB e x <;> cases lvB e i <;> simp only [Bool.false_and, Bool.true_and, Bool.and_self, cond_false, cond_true]; cases iasB sz (sv e x) (sv e i) <;> rfl
  case bin op x y => cases lvB e x <;> cases lvB e y <;> simp only [Bool.false_and, Bool.true_and, Bool.and_self, cond_false, cond_true]; cases binB op (sv e x) (sv e y) <;> rfl
  case st sz x y => cases lvB e x <;> cases lvB e y <;> simp only [Bool.false_and, Bool.true_and, Bool.and_self, cond_false, cond_true]; cases stB s.rows sz (sv e x) (sv e y) <;> rfl
  case cal f xs => cases allLvB e xs <;> rfl

def cseq (a : Ev0) (b : Ev1) : List RP → Sq
  | [] => ⟨fun e s => some (.normal, e, s)⟩
  | o :: l =>
    match o.guard with
    | none => ⟨fun e s => match (cop a b o.im o.op).run e s with
      | some (.ret v, s') => (cseq a b l).run (put e o.dst v) s'
      | some (.pan v, s') => some (.pan v, e, s')
      | none => none⟩
    | some (g, c) => ⟨fun e s => match gv e g c with
      | some t => match norow o.im o.op with
        | true => match gE a t o.op e s with
          | some v => (cseq a b l).run (put e o.dst (.opt t v)) (next s none)
          | none => none
        | false => match t with
          | true => match (cop a b o.im o.op).run e s with
            | some (.ret v, s') => (cseq a b l).run (put e o.dst v) s'
            | some (.pan v, s') => some (.pan v, e, s')
            | none => none
          | false => (cseq a b l).run (put e o.dst (.opt false .any)) s
      | none => none⟩
theorem cseq_eq (a : Ev0) (b : Ev1) : ∀ (l : List RP) (e : Env) (s : Store), (cseq a b l).run e s = seqE a b l e s
  | [], e, s => rfl
  | o :: l, e, s => by
    obtain ⟨dst, guard, im, op⟩ := o
    cases guard with
    | none => simp only [cseq, seqE, cop_eq, cseq_eq a b l]; rfl
    | some gc => simp only [cseq, seqE, cop_eq, cseq_eq a b l]; rfl

def crun (a : Ev0) (b : Ev1) (L : Nat) : RQ → Sq
  | .skip => ⟨fun e s => some (.normal, e, s)⟩
  | .ret => ⟨fun e s => some (.ret, e, s)⟩
  | .exit id => ⟨fun e s => some (.exit id, e, s)⟩
  | .seq x y => ⟨fun e s => match (crun a b L x).run e s with
    | some (.normal, e1, s1) => (crun a b L y).run e1 s1
    | r => r⟩
  | .cond c x y => ⟨fun e s => match (oS c).run e with
    | some (.bool t) => bif t then (crun a b L x).run e s else (crun a b L y).run e s
    | _ => none⟩
  | .block id x => ⟨fun e s => match (crun a b L x).run e s with
    | some (.exit i, e1, s1) => bif i == id then some (.normal, e1, s1) else some (.exit i, e1, s1)
    | r => r⟩
  | .loop x => ⟨fun e s => lpE (crun a b L x).run L e s⟩
  | .reg ops => ⟨fun e s => fX ((cseq a b ops).run e s)⟩
  | .drw ops tail => ⟨fun e s => match dE a s.rows s.nx ops s.nx s.rows [] [] e with
    | some (e1, s1) => fX ((cseq a b tail).run e1 s1)
    | none => none⟩
theorem crun_eq (a : Ev0) (b : Ev1) (L : Nat) : ∀ (q : RQ), (crun a b L q).run = runE a b L q
  | .skip => rfl
  | .ret => rfl
  | .exit id => rfl
  | .seq x y => by funext e s; simp only [crun, runE, crun_eq a b L x, crun_eq a b L y]; rfl
  | .cond c x y => by funext e s; simp only [crun, runE, crun_eq a b L x, crun_eq a b L y, oS_eq]; cases lvB e c <;> simp only [cond_true, cond_false]; cases sv e c <;> rfl
  | .block id x => by funext e s; simp only [crun, runE, crun_eq a b L x]; rfl
  | .loop x => by funext e s; simp only [crun, runE, crun_eq a b L x]
  | .reg ops => by funext e s; simp only [crun, runE, cseq_eq]
  | .drw ops tail => by funext e s; simp only [crun, runE, cseq_eq]; rfl

def crunD (a : Ev0) (b : Ev1) (L : Nat) (q0 : List RP) (qB qG : RQ) (g : FuncId) (caps : List Opd) (td t1 t2 : Nat) (xs : List AV) (s : Store) : Option (AX × Env × Store) :=
  match (cseq a b q0).run (argE 0 xs) s with
  | some (.normal, e, s1) => bif allLvB e caps then (match (crun a b L qB).run (put e (some td) (.fn (.func g) [] (caps.map (sv e)))) (next s1 none) with
    | some (x, e2, s2) => match (match x with | .normal | .ret => some AV.nili | .pan v => some v | _ => none) with
      | some v => match (crun a b L qG).run (put (put (argE 0 (caps.map (sv e))) (some t1) v) (some t2) v) s2 with
        | some (.normal, _, s3) | some (.ret, _, s3) => some (.ret, e2, s3)
        | _ => none
      | none => none
    | none => none) else none
  | _ => none
def crunT (a : Ev0) (b : Ev1) (L : Nat) (t : TE) (xs : List AV) (s : Store) : Option (AX × Env × Store) :=
  match t with
  | .fn q _ _ => (crun a b L q).run (argE 0 xs) s
  | .df q0 qB qG _ g caps td t1 t2 _ => crunD a b L q0 qB qG g caps td t1 t2 xs s
theorem crunT_eq (a : Ev0) (b : Ev1) (L : Nat) (t : TE) (xs : List AV) (s : Store) : crunT a b L t xs s = runT a b L t xs s := by
  cases t with
  | fn q rv nt => simp only [crunT, runT, crun_eq]
  | df => simp only [crunT, runT, crunD, runD, crun_eq, cseq_eq]; rfl

def evC (tab : Tab) (fr : List Nat) (L : Nat) : Nat → Ev0 × Ev1
  | 0 => (fun _ _ => none, fun _ _ _ => none)
  | n + 1 => (fun f xs => match tab f with
      | some t => bif decide (xs.length ≤ t.nt) && clL xs then
          (bif fr.contains f then finR (fin1 t.rv (crunT (evC tab fr L n).1 (evC tab fr L n).2 L t xs ⟨0, []⟩))
          else (fin0 t.rv (crunT (evC tab fr L n).1 (evC tab fr L n).2 L t xs ⟨0, []⟩)).map fun o => (o, 0, [])) else none
      | none => none,
    fun f xs s => match tab f with
      | some t => bif decide (xs.length ≤ t.nt) then fin1 t.rv (crunT (evC tab fr L n).1 (evC tab fr L n).2 L t xs s) else none
      | none => none)
theorem evC_eq (tab : Tab) (fr : List Nat) (L : Nat) : ∀ n, evC tab fr L n = evN tab fr L n
  | 0 => rfl
  | n + 1 => by simp only [evC, evN, evC_eq tab fr L n, crunT_eq]; rfl

def lkF' : List (Nat × TE) → Tab
  | [], _ => none
  | (k, t) :: l, f => bif Nat.beq k f then some t else lkF' l f
theorem lkF'_eq : ∀ (l : List (Nat × TE)) (f : FuncId), lkF' l f = lkT l f
  | [], _ => rfl
  | (k, t) :: l, f => by simp only [lkF', lkT, lkF'_eq l f, beqF]
theorem ev_call {P : Program} {l : List (Nat × TE)} {fr : List Nat} {L n : Nat} (hm : P.follows .mixedOrders = true) (T : TabOK P (lkT l)) {f : FuncId} {xs : List AV} {v : AV} (h : (evC (lkF' l) fr L n).1 f xs = some (.ret v, 0, [])) : PCall P f xs v :=
  ev_pcall hm T (by rw [evC_eq, show lkF' l = lkT l from funext (lkF'_eq l)] at h; exact h)
theorem outK_ret {K Kp : AV → Store → Prop} {v : AV} {s : Store} : outK K Kp (.ret v) s = K v s := rfl
theorem outK_pan {K Kp : AV → Store → Prop} {v : AV} {s : Store} : outK K Kp (.pan v) s = Kp v s := rfl
end Go.Proofs.YtggmkfagcjdifaaDoor.Ai
