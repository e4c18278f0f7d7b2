/-
  One operation of the code, whatever it is: what it does in the model. Calls. Plain facts, no condition.
-/
import Derived.Test.YtcgodcpgdnfjpaaAiM
import Derived.Laws.StructEq
namespace Go.Proofs.Ytcgodcpgdnfjpaa.Ai
set_option linter.unusedSimpArgs false
set_option linter.unusedVariables false
set_option linter.unusedVariables false

theorem wi_wide : WI none = Fence.wide := rfl

/-- An operation's run, with the call that it makes. -/
inductive Does (P : Program) (o : Oper) (ρ : Operand → Value) (w : World) (R : Value → World → Prop) : Prop
  | value (u : Value) (w' : World) (h : (execOp ρ o).run P w = .ok (.value u) w') (r : R u w')
  | skip (w' : World) (h : (execOp ρ o).run P w = .ok .skip w') (r : R undef w')
  | enter (f : FuncId) (args : Array Value) (h : (execOp ρ o).run P w = .ok (.enter f args) w) (r : Calls P f args w fun e w' => ∃ u, e = .returned u ∧ R u w')

theorem Does.mono {P : Program} {o : Oper} {ρ : Operand → Value} {w : World} {R R' : Value → World → Prop} (h : Does P o ρ w R) (hr : ∀ u w', R u w' → R' u w') : Does P o ρ w R' := by
  cases h with
  | value u w' h r => exact .value u w' h (hr _ _ r)
  | skip w' h r => exact .skip w' h (hr _ _ r)
  | enter f args h r => exact .enter f args h (Calls.mono r fun e w' ⟨u, h1, h2⟩ => ⟨u, h1, hr _ _ h2⟩)

theorem Does.wpIn {P : Program} {o : Oper} {a : Act} {w : World} {R : Value → World → Prop} {next : Act → World → Prop} {Q : Exit → Act → World → Prop} (hd : ∀ c, o.op ≠ .defer c) (h : Does P o a.eval w R)
    (hn : ∀ u w', R u w' → next (a.put o.dst u) w') : o.wpIn (WI none) 0 P a w next Q := by
  refine And.intro (fun f _ => trivial) ?_
  show o.uponIn (WI none) 0 P a next Q ((execOp a.eval o).run P w)
  cases h with
  | value u w' h r => rw [h]; exact hn _ _ r
  | skip w' h r => rw [h]; exact hn _ _ r
  | enter f args h r =>
    rw [h]
    refine ⟨fun h => (by cases h), ?_⟩
    rw [wi_wide]
    refine callsIn_wide.2 (Calls.mono r ?_)
    rintro e w' ⟨u, rfl, hr⟩
    exact hn _ _ hr

/-- An operation that leaves the old memory as it was. -/
structure PR (F : Nat → Prop) (w : World) (p : Place) (D : Nat → Prop) (k : Nat) (F' : Nat → Prop) (w' : World) (u : Value) (row : Option Row) (v : AV) : Prop where
  grow : Grow w w'
  inF : ∀ b, F b → F' b
  newF : ∀ b, F' b → F b ∨ (w.heap.size ≤ b ∧ b < w'.heap.size)
  nrow : ∀ r, row = some r → ¬ F' w.heap.size ∧ RowOK F' w' (upd p k (w.heap.size, 0)) (fun i => D i ∨ i = k) r w.heap.size 0 ∧ w.heap.size < w'.heap.size
  val : VR F' w' (upd p k (w.heap.size, 0)) (fun i => D i ∨ i = k) v u

section
variable {F : Nat → Prop} {w : World} {p : Place} {D : Nat → Prop} {e : Env} {rows : Rows} {P : Program} {k : Nat}

theorem PRes.pr {w' : World} {u : Value} {row : Option Row} {v : AV} (hs : SRel F w p D rows) (h : PRes F w p D k w' u row v) : PR F w p D k F w' u row v :=
  ⟨h.grow, fun _ h => h, fun _ h => .inl h, fun r hr => ⟨fun hF => Nat.lt_irrefl _ (hs.old _ hF), h.nrow r hr⟩,
    h.val.mono (fun _ h => h) (fun _ _ => rfl) (fun b c t fz hb => ⟨c, t, fz, hb, rfl⟩) (fun _ _ => rfl) (fun i hi => hi.imp (fun h => h) (fun h => h.1))⟩

/-- A row that was just made, as an immutable slice. -/
theorem PRes.imm {w' : World} {u : Value} {sz n : Nat} {es : List (List AV)} (hs : SRel F w p D rows) (hn : 0 < n) (he : es.length = n) (h : PRes F w p D k w' u (some ⟨sz, es⟩) (.sl k sz 0 n (some n))) :
    PR F w p D k (fun b => F b ∨ b = w.heap.size) w' u none (.ros sz es) := by
  obtain ⟨h1, h2⟩ := h.nrow _ rfl
  refine ⟨h.grow, fun _ h => .inl h, fun b hb => hb.imp (fun h => h) (fun hb => ⟨by omega, by omega⟩), fun r hr => (by cases hr), ?_⟩
  obtain ⟨c, t, fz, hb, hfz, hr, hv⟩ := h1.ex
  have hval := h.val
  generalize hu : u = u' at hval
  cases hval with
  | sl id q i n' kc a cap hid hnc hkc ha =>
    obtain rfl := hkc n rfl
    rcases ha with ha | ⟨c', t', fz', rfl, _, _⟩
    · omega
    · have hkk : (upd p k (w.heap.size, 0)) k = (w.heap.size, 0) := by simp [upd]
      rw [hkk]
      simp only [Nat.zero_mul, Nat.add_zero]
      subst he
      refine .ros sz es _ _ _ c t fz hb (.inr rfl) (Nat.le_refl _) (fun x hx => h1.sz x hx) hr fun i x j v hx hj => ?_
      exact (hv i x j v hx hj).mono (fun _ h => .inl h) (fun _ _ => rfl) (fun b c t fz hb => ⟨c, t, fz, hb, rfl⟩) (fun _ _ => rfl) (fun _ h => h)

/-- Values that speak of no row. -/
inductive Cl : AV → Prop
  | any : Cl .any
  | bool (b : Bool) : Cl (.bool b)
  | int (k : IntKind) (n : Int) : Cl (.int k n)
  | str (s : ByteArray) : Cl (.str s)
  | nilp : Cl .nilp
  | nils : Cl .nils
  | nilf : Cl .nilf
  | nili : Cl .nili
  | nilm : Cl .nilm
  | agg (cs : List AV) (h : ∀ c ∈ cs, Cl c) : Cl (.agg cs)
  | tup (cs : List AV) (h : ∀ c ∈ cs, Cl c) : Cl (.tup cs)
  | ros (sz : Nat) (es : List (List AV)) (h : ∀ x ∈ es, ∀ c ∈ x, Cl c) : Cl (.ros sz es)
  | rop (cs : List AV) (h : ∀ c ∈ cs, Cl c) : Cl (.rop cs)
  | fn (f : Fn) (xs ys : List AV) (h1 : ∀ c ∈ xs, Cl c) (h2 : ∀ c ∈ ys, Cl c) : Cl (.fn f xs ys)
  | ifc (t : TypeId) (v : AV) (h : Cl v) : Cl (.ifc t v)
  | roe (sz : Nat) : Cl (.roe sz)
  | opt (t : Bool) (v : AV) (h : Cl v) : Cl (.opt t v)

theorem VR.closed {p' : Place} {D' : Nat → Prop} {v : AV} {u : Value} (h : VR F w p D v u) (hc : Cl v) : VR F w p' D' v u := by
  induction hc generalizing u with
  | any => exact .any _
  | bool b => cases h; exact .bool b
  | int k n => cases h; exact .int k n
  | str s => cases h; exact .str s
  | nilp => cases h; exact .nilp
  | nils => cases h; exact .nils
  | nilf => cases h; exact .nilf
  | nili => cases h; exact .nili
  | nilm => cases h; exact .nilm
  | agg cs hc ih => cases h with | agg _ us hs h => exact .agg cs us hs fun j v hj => ih v (List.mem_of_getElem? hj) (h j v hj)
  | tup cs hc ih => cases h with | tup _ us hs h => exact .tup cs us hs fun j v hj => ih v (List.mem_of_getElem? hj) (h j v hj)
  | ros sz es hc ih =>
    cases h with
    | rosNil => exact .rosNil sz
    | rosEmp _ a cap => exact .rosEmp sz a cap
    | ros _ _ b o cap c t fz hb hF hcap hsz hr h =>
      exact .ros sz es b o cap c t fz hb hF hcap hsz hr fun i x j v hx hj => ih x (List.mem_of_getElem? hx) v (List.mem_of_getElem? hj) (h i x j v hx hj)
  | rop cs hc ih => cases h with | rop _ b o c t fz hb hF hr h => exact .rop cs b o c t fz hb hF hr fun j v hj => ih v (List.mem_of_getElem? hj) (h j v hj)
  | fn f xs ys h1 h2 ih1 ih2 =>
    cases h with | fn _ _ _ us vs g1 g2 g3 g4 =>
    exact .fn f xs ys us vs g1 g2 (fun j v hj => ih1 v (List.mem_of_getElem? hj) (g3 j v hj)) (fun j v hj => ih2 v (List.mem_of_getElem? hj) (g4 j v hj))
  | ifc t v hc ih => cases h with | ifc _ _ u h => exact .ifc t v u (ih h)
  | roe sz => cases h with | roe _ a cap => exact .roe sz a cap
  | opt t v hc ih => cases h with | opt _ _ _ h1 h2 => exact .opt t v _ (fun h => ih (h1 h)) h2

/-- What stands in no row stands whatever the places are. -/
theorem VR.free {p' : Place} {D' : Nat → Prop} {v : AV} {u : Value} (h : VR F w p (fun _ => False) v u) : VR F w p' D' v u :=
  h.mono (fun _ h => h) (fun _ _ => rfl) (fun b c t fz hb => ⟨c, t, fz, hb, rfl⟩) (fun _ h => h.elim) (fun _ h => h.elim)

def CArgs (F : Nat → Prop) (w : World) (xs : List AV) (args : Array Value) : Prop :=
  args.size = xs.length ∧ ∀ j x, xs[j]? = some x → VR F w (fun _ => (0, 0)) (fun _ => False) x (args.getD j undef)

/-- A function that gives a value of what it is given, and leaves the old memory as it was. -/
structure PCall (P : Program) (f : FuncId) (xs : List AV) (v : AV) : Prop where
  enter : ∀ args w, (callFunc f args).run P w = .ok (.enter f args) w
  run : ∀ F w args, (∀ b, F b → b < w.heap.size) → CArgs F w xs args →
    Calls P f args w fun e w' => ∃ u, e = .returned u ∧ ∃ F', Grow w w' ∧ (∀ b, F b → F' b) ∧ (∀ b, F' b → F b ∨ (w.heap.size ≤ b ∧ b < w'.heap.size)) ∧ VR F' w' (fun _ => (0, 0)) (fun _ => False) v u


def ROp.pure : ROp → Bool
  | .st _ _ _ | .app _ _ _ _ _ | .cal _ _ | .cav _ _ => false
  | _ => true

def skOf (P : Program) (t : TypeId) : Option SK :=
  match P.underlying t with
  | some .bool => some .b
  | some (.int k) => some (.i k)
  | some .string => some .s
  | _ => none
/-- A struct or an array of plain parts: where they stand. -/
def partsOf (P : Program) (t : TypeId) : Option (List (Nat × SK)) :=
  match P.underlying t with
  | some (.struct fs) => bif !(P.stoodInHeld t) && !(P.eqGuardType P.depth t) && fs.all (fun f => f.name != "_") then mapO (fun f => (skOf P f.type).map fun k => (f.offset, k)) fs.toList else none
  | some (.array n e) => bif !(P.eqGuardType P.depth t) && (sizeAt P e == some 1) then (skOf P e).map fun k => (List.range n).map fun i => (i, k) else none
  | _ => none

def eqNeg : BinOp → Option Bool
  | .eql => some false
  | .neq => some true
  | _ => none

def liteE (P : Program) : Op → Option ROp
  | .binOp op t x y _ => (eqNeg op).bind fun g => (partsOf P t).bind fun l => (opd x).bind fun x => (opd y).bind fun y => some (.eqv g l x y)
  | .store t a x => (sizeAt P t).bind fun n => (opd a).bind fun a => (opd x).bind fun x => some (.st n a x)
  | .call ⟨.value (.func f), args, _⟩ => (mapO opd args.toList).map (.cal f)
  | .call ⟨.value (.tmp t), args, _⟩ => (mapO opd args.toList).map (.cav (.t t))
  | .call ⟨.builtin .append, args, ats⟩ =>
    match args.toList with
    | [x, y] => (opd x).bind fun x => (opd y).bind fun y => match (ats[0]?).bind P.underlying, (ats[1]?).bind P.underlying with
      | some (.slice e), some (.slice _) => (P.info? e).bind fun i => (zeroOf P e).bind fun z => some (.app i.size i.bytes z x y)
      | _, _ => none
    | _ => none
  | _ => none

def lite1 (P : Program) (o : Op) : Option ROp :=
  match liteE P o with
  | some r => some r
  | none => match liteOp P o with
    | some r => bif r.pure then some r else none
    | none => none

theorem lite1_cases {o : Op} {r : ROp} (h : lite1 P o = some r) : liteE P o = some r ∨ (liteOp P o = some r ∧ r.pure = true) := by
  unfold lite1 at h
  split at h
  · rename_i r' h'; cases h; exact .inl h'
  · split at h
    · rename_i r' h'
      cases hp : r'.pure with
      | true => rw [hp] at h; simp only [cond_true, Option.some.injEq] at h; subst h; exact .inr ⟨h', hp⟩
      | false => rw [hp] at h; cases h
    · cases h

/-- What a called function is given. -/
theorem cargs {vs : List AV} {us : Array Value} (h : CellsOK F w p D vs us) (hcl : ∀ x ∈ vs, Cl x) : CArgs F w vs us :=
  ⟨h.1, fun j x hj => (h.2 j x hj).closed (hcl x (List.mem_of_getElem? hj))⟩

theorem call_does {o : Oper} {g : FuncId} {us : Array Value} {vs : List AV} {ρ : Operand → Value} {v : AV} (hs : SRel F w p D rows) (hr : (execOp ρ o).run P w = (callFunc g us).run P w) (hu : CArgs F w vs us) (hc : PCall P g vs v) :
    Does P o ρ w fun u w' => ∃ F', PR F w p D k F' w' u none v := by
  refine .enter g us (hr.trans (hc.enter us w)) (Calls.mono (hc.run F w us hs.old hu) ?_)
  rintro e w' ⟨u, rfl, F', h1, h2, h3, h4⟩
  exact ⟨u, rfl, F', h1, h2, h3, fun r hr => (by cases hr), h4.free⟩

/-- What an operation does, on abstract values: 'im': a slice that is built is never written. -/
def achR (P : Program) (im : Bool) (op : ROp) (e : Env) (rows : Rows) (k : Nat) (row : Option Row) (v : AV) : Prop :=
  match op with
  | .cal f xs => row = none ∧ allLv e xs ∧ (∀ x ∈ xs.map (sv e), Cl x) ∧ PCall P f (xs.map (sv e)) v
  | .cav f xs => row = none ∧ lv e f ∧ allLv e xs ∧ ∃ g a b, sv e f = .fn (.func g) a b ∧ (∀ x ∈ a ++ xs.map (sv e) ++ b, Cl x) ∧ PCall P g (a ++ xs.map (sv e) ++ b) v
  | .bslice sz n z ps => (z.length = sz ∧ n * sz ≤ 2 ^ 24 ∧ elemsC e sz n ps) ∧
    ((im = false ∧ row = some ⟨sz, elemsV e (List.replicate n z) ps⟩ ∧ v = .sl k sz 0 n (some n)) ∨ (im = true ∧ 0 < n ∧ row = none ∧ v = .ros sz (elemsV e (List.replicate n z) ps)))
  | op => pcond e rows op ∧ row = prow e rows op ∧ v = pval e rows k op

theorem CellsOK.append {as bs : List AV} {us vs : Array Value} (h : CellsOK F w p D as us) (g : CellsOK F w p D bs vs) : CellsOK F w p D (as ++ bs) (us ++ vs) := by
  refine ⟨by simp [h.1, g.1], fun j v hj => ?_⟩
  by_cases hlt : j < as.length
  · rw [List.getElem?_append_left hlt] at hj
    have := h.2 j v hj
    rwa [Array.getD_eq_getD_getElem?, Array.getElem?_append_left (by rw [h.1]; exact hlt), ← Array.getD_eq_getD_getElem?]
  · rw [List.getElem?_append_right (by omega)] at hj
    have := g.2 _ v hj
    rw [Array.getD_eq_getD_getElem?, Array.getElem?_append_right (by rw [h.1]; omega), h.1, ← Array.getD_eq_getD_getElem?]
    exact this

theorem elemsV_length (e : Env) : ∀ (ps : List (Nat × Opd)) (es : List (List AV)), (elemsV e es ps).length = es.length
  | [], es => rfl
  | (i, x) :: l, es => by simp [elemsV, elemsV_length e l]

theorem sk_sound {t : TypeId} {sk : SK} {x y : AV} {u v : Value} (d : Nat) (h : skOf P t = some sk) (hx : VR F w p D x u) (hy : VR F w p D y v) (cx : skC sk x) (cy : skC sk y) :
    (Op.equalIn (d + 1) t u v).run P w = .ok (skE x y) w := by
  unfold skOf at h
  split at h <;> simp only [Option.some.injEq, reduceCtorEq] at h <;> subst h <;> rename_i hu
  · cases x <;> first | exact cx.elim | skip
    cases y <;> first | exact cy.elim | skip
    cases hx; cases hy
    exact run_equalIn_bool' w d t _ _ hu
  · cases x <;> first | exact cx.elim | skip
    cases y <;> first | exact cy.elim | skip
    cases hx; cases hy
    obtain rfl : _ = _ := cx
    obtain rfl : _ = _ := cy
    exact run_equalIn_int w d t _ _ _ _ hu
  · cases x <;> first | exact cx.elim | skip
    cases y <;> first | exact cy.elim | skip
    cases hx; cases hy
    exact run_equalIn_string w d t _ _ hu

theorem sk_size {t : TypeId} {sk : SK} (h : skOf P t = some sk) : isAggT P t = some false := by
  unfold skOf at h
  unfold isAggT
  split at h <;> first | (rename_i hu; simp [hu]; done) | cases h

theorem part_one {cs : List AV} {us : Array Value} (h : CellsOK F w p D cs us) {t : TypeId} {off : Nat} (hg : isAggT P t = some false) (ho : off < cs.length) : ∃ u, (part t us off).run P w = .ok u w ∧ VR F w p D (cs.getD off .any) u := by
  refine ⟨us.getD off undef, ?_, ?_⟩
  · have : off < us.size := by rw [h.1]; exact ho
    simp [part, run_isAgg hg, this]
  · have hx : cs[off]? = some (cs.getD off .any) := by simp [List.getD, List.getElem?_eq_getElem ho]
    exact h.2 off _ hx

theorem fields_sound (d : Nat) {cs ds : List AV} {us vs : Array Value} (h1 : CellsOK F w p D cs us) (h2 : CellsOK F w p D ds vs) : ∀ (fs : List Field) (l : List (Nat × SK)), fs.all (fun f => f.name != "_") = true →
    mapO (fun f => (skOf P f.type).map fun k => (f.offset, k)) fs = some l → eqvC l cs ds → (Op.eqFields (d + 1) us vs fs).run P w = .ok (eqvV l cs ds) w
  | [], l, _, hm, _ => by simp only [mapO, Option.some.injEq] at hm; subst hm; rfl
  | f :: fs, l, hn, hm, hc => by
    simp only [mapO] at hm
    split at hm
    · rename_i x l' hx hl
      simp only [Option.some.injEq] at hm; subst hm
      simp only [Option.map_eq_some_iff] at hx
      obtain ⟨k, hk, rfl⟩ := hx
      obtain ⟨⟨c1, c2, c3, c4⟩, hc'⟩ := hc
      simp only [List.all_cons, Bool.and_eq_true, bne_iff_ne] at hn
      obtain ⟨u, p1, q1⟩ := part_one (P := P) h1 (sk_size hk) c1
      obtain ⟨v, p2, q2⟩ := part_one (P := P) h2 (sk_size hk) c2
      have := sk_sound (P := P) d hk q1 q2 c3 c4
      simp only [Op.eqFields, if_pos hn.1, Sem.run_bind, p1, Result.andThen_ok, p2, this, eqvV]
      have ih := fields_sound d h1 h2 fs l' hn.2 hl hc'
      cases skE (cs.getD f.offset .any) (ds.getD f.offset .any) with
      | false => simp
      | true => simpa using ih
    · cases hm

theorem array_sound (d : Nat) {t el : TypeId} {n : Nat} {sk : SK} (hu : P.underlying t = some (.array n el)) (hsk : skOf P el = some sk) (hz : sizeAt P el = some 1) {cs ds : List AV} {us vs : Array Value} (h1 : CellsOK F w p D cs us) (h2 : CellsOK F w p D ds vs)
    (hc : eqvC ((List.range n).map fun i => (i, sk)) cs ds) : (Op.equalIn (d + 2) t (.agg us) (.agg vs)).run P w = .ok (eqvV ((List.range n).map fun i => (i, sk)) cs ds) w := by
  rw [Op.equalIn]
  simp only [Sem.run_bind, run_underlying hu, Result.andThen_ok, run_sizeAt hz, Nat.mul_one, Std.Legacy.Range.forIn_eq_forIn_range', Std.Legacy.Range.size, Nat.sub_zero, Nat.add_sub_cancel, Nat.div_one]
  rw [List.range_eq_range'] at hc ⊢
  generalize List.range' 0 n = l at hc ⊢
  induction l with
  | nil => simp [eqvV]
  | cons i l ih =>
    obtain ⟨⟨c1, c2, c3, c4⟩, hc'⟩ := hc
    obtain ⟨u, p1, q1⟩ := part_one (P := P) h1 (sk_size hsk) c1
    obtain ⟨v, p2, q2⟩ := part_one (P := P) h2 (sk_size hsk) c2
    have := sk_sound (P := P) d hsk q1 q2 c3 c4
    simp only [List.forIn_cons, Sem.run_bind, p1, Result.andThen_ok, p2, this, List.map_cons, eqvV]
    cases hb : skE (cs.getD i .any) (ds.getD i .any) with
    | false => simp [hb]
    | true =>
      have ih := ih hc'
      simpa [hb] using ih

theorem eqv_sound {t : TypeId} {l : List (Nat × SK)} {x y : AV} {u v : Value} (hp : partsOf P t = some l) (hx : VR F w p D x u) (hy : VR F w p D y v) (hc : eqaC l x y) (neg : Bool) (ρ : Operand → Value) (a b : Operand) (ha : ρ a = u) (hb : ρ b = v) (yt : TypeId) (dst ty pos after guard) :
    ∃ r, (execOp ρ ⟨dst, .binOp (if neg then .neq else .eql) t a b yt, ty, pos, after, guard⟩).run P w = .ok (.value (.bool r)) w ∧ eqaV neg l x y = .bool r := by
  cases x <;> cases y <;> try exact hc.elim
  rename_i cs ds
  obtain ⟨us, rfl, h1⟩ := aggOf hx
  obtain ⟨vs, rfl, h2⟩ := aggOf hy
  simp only [eqaC] at hc
  have key : (Op.equalIn 10000 t (.agg us) (.agg vs)).run P w = .ok (eqvV l cs ds) w ∧ P.eqGuardType P.depth t = false := by
    unfold partsOf at hp
    split at hp
    · rename_i fs hu
      cases hst : P.stoodInHeld t with
      | true => rw [hst] at hp; simp at hp
      | false =>
        cases hg : P.eqGuardType P.depth t with
        | true => rw [hg] at hp; simp at hp
        | false =>
          cases hn : fs.all (fun f => f.name != "_") with
          | false => rw [hst, hg, hn] at hp; simp at hp
          | true =>
            rw [hst, hg, hn] at hp
            simp only [Bool.not_false, Bool.and_self, cond_true] at hp
            have hfs : P.fieldsOf t = fs := by simp [Program.fieldsOf, hu]
            refine ⟨?_, rfl⟩
            rw [run_equalIn_struct w 9999 t us vs (by rw [hfs]; exact hu) hst, hfs]
            exact fields_sound 9998 h1 h2 fs.toList l (by simpa using hn) hp hc
    · rename_i n el hu
      cases hg : P.eqGuardType P.depth t with
      | true => rw [hg] at hp; simp at hp
      | false =>
        cases hz : (sizeAt P el == some 1) with
        | false => rw [hz] at hp; simp at hp
        | true =>
          rw [hg, hz] at hp
          simp only [Bool.not_false, Bool.and_self, cond_true, Option.map_eq_some_iff] at hp
          obtain ⟨sk, hsk, rfl⟩ := hp
          exact ⟨array_sound 9998 hu hsk (by simpa using hz) h1 h2 hc, rfl⟩
    · cases hp
  refine ⟨_, ?_, rfl⟩
  cases neg with
  | false =>
    simp only [execOp, ha, hb, Bool.false_eq_true, if_false, Sem.run_bind, run_eqGuard_agg w _ t a b us vs key.2, Result.andThen_ok, run_eql_struct, key.1, cond_false, Sem.run_pure]
  | true =>
    simp only [execOp, ha, hb, if_true, Sem.run_bind, run_eqGuard_agg w _ t a b us vs key.2, Result.andThen_ok, run_neq_struct, key.1, cond_true, Sem.run_pure]

theorem ach_eff {o : Oper} {r : ROp} {im : Bool} {row : Option Row} {ρ : Operand → Value} {v : AV} (hs : SRel F w p D rows) (hk : ¬ D k) (hl : liteE P o.op = some r)
    (ho : ∀ x ∈ o.op.operands, ∀ y, opd x = some y → VR F w p D (ev e y) (ρ x)) (hc : achR P im r e rows k row v) :
    Does P o ρ w fun u w' => ∃ F', PR F w p D k F' w' u row v := by
  obtain ⟨dst, op, ty, pos, after, guard⟩ := o
  · cases op <;> simp only [liteE, reduceCtorEq] at hl
    case binOp op t x y yt =>
      simp only [Option.bind_eq_some_iff, Option.some.injEq] at hl
      obtain ⟨g, hg, l, hp, x', hx', y', hy', rfl⟩ := hl
      obtain ⟨⟨c1, c2, c3⟩, rfl, rfl⟩ := hc
      have v1 := (ho x (by simp [Op.operands]) x' hx').sv c1
      have v2 := (ho y (by simp [Op.operands]) y' hy').sv c2
      have hop : op = if g then .neq else .eql := by cases op <;> simp [eqNeg] at hg <;> subst hg <;> rfl
      rw [hop]
      obtain ⟨q, hrun, hq⟩ := eqv_sound (P := P) hp v1 v2 c3 g ρ x y rfl rfl yt dst ty pos after guard
      refine .value _ w hrun ⟨F, (PRes.same hs hk (?_ : VR F w p D (pval e rows k (.eqv g l x' y')) _)).pr hs⟩
      simp only [pval, hq]
      exact .bool _
    case store t a x =>
      simp only [Option.bind_eq_some_iff, Option.some.injEq] at hl
      obtain ⟨_, _, _, _, _, _, rfl⟩ := hl
      exact hc.1.elim
    case call c =>
      obtain ⟨callee, args, ats⟩ := c
      have hops : ∀ x ∈ args, ∀ y, opd x = some y → VR F w p D (ev e y) (ρ x) := fun x hx => ho x (by simp [Op.operands, Call.operands, hx])
      cases callee with
      | invoke r m => cases hl
      | builtin b =>
        cases b <;> simp only [reduceCtorEq] at hl
        split at hl
        · simp only [Option.bind_eq_some_iff] at hl
          obtain ⟨_, _, _, _, hl⟩ := hl
          split at hl
          · simp only [Option.bind_eq_some_iff, Option.some.injEq] at hl
            obtain ⟨_, _, _, _, rfl⟩ := hl
            exact hc.1.elim
          · cases hl
        · cases hl
      | value f =>
        cases f <;> simp only [Option.map_eq_some_iff, reduceCtorEq] at hl
        case func g =>
          obtain ⟨ys, hys, rfl⟩ := hl
          obtain ⟨rfl, h1, h2, h3⟩ := hc
          have hv := ho (.func g) (by simp [Op.operands, Call.operands]) (.f g) rfl
          simp only [ev] at hv
          generalize hu : ρ (.func g) = u at hv
          cases hv with
          | fn _ _ _ us vs g1 g2 g3 g4 =>
            have e1 : us = #[] := Array.eq_empty_of_size_eq_zero g1
            have e2 : vs = #[] := Array.eq_empty_of_size_eq_zero g2
            refine call_does hs ?_ (cargs (list_ok hys hops h1) h2) h3
            simp [execOp, resolve, hu, Deferred.ofValue, invoke, e1, e2]
        case tmp t =>
          obtain ⟨ys, hys, rfl⟩ := hl
          obtain ⟨rfl, h0, h1, g, a, b, hg, h2, h3⟩ := hc
          have hv := (ho (.tmp t) (by simp [Op.operands, Call.operands]) (.t t) rfl).sv h0
          rw [hg] at hv
          generalize hu : ρ (.tmp t) = u at hv
          cases hv with
          | fn _ _ _ us vs g1 g2 g3 g4 =>
            refine call_does hs ?_ (cargs ((CellsOK.append ⟨g1, g3⟩ (list_ok hys hops h1)).append ⟨g2, g4⟩) h2) h3
            simp [execOp, resolve, hu, Deferred.ofValue, invoke]

theorem ach_pure {o : Oper} {r : ROp} {im : Bool} {row : Option Row} {ρ : Operand → Value} {v : AV} (hs : SRel F w p D rows) (hk : ¬ D k) (hl : liteOp P o.op = some r) (hp : r.pure = true)
    (ho : ∀ x ∈ o.op.operands, ∀ y, opd x = some y → VR F w p D (ev e y) (ρ x)) (hc : achR P im r e rows k row v) :
    Does P o ρ w fun u w' => ∃ F', PR F w p D k F' w' u row v := by
  · have hc' : ∀ {row' : Option Row} {v' : AV}, pcond e rows r → row' = prow e rows r → v' = pval e rows k r → Does P o ρ w fun u w' => ∃ F', PR F w p D k F' w' u row' v' := by
      rintro _ _ h1 rfl rfl
      obtain ⟨u, w', h2, h3⟩ := pure_sound hs hk hl ho h1
      exact .value u w' h2 ⟨F, h3.pr hs⟩
    cases r <;> simp only [ROp.pure, reduceCtorEq] at hp <;> try exact hc' hc.1 hc.2.1 hc.2.2
    case bslice =>
      obtain ⟨h1, h2⟩ := hc
      rcases h2 with ⟨rfl, rfl, rfl⟩ | ⟨rfl, hn, rfl, rfl⟩
      · exact hc' h1 rfl rfl
      · obtain ⟨u, w', h2, h3⟩ := pure_sound hs hk hl ho (show pcond e rows (.bslice _ _ _ _) from h1)
        exact .value u w' h2 ⟨_, PRes.imm hs hn (by rw [elemsV_length]; simp) h3⟩

theorem ach_sound {o : Oper} {r : ROp} {im : Bool} {row : Option Row} {ρ : Operand → Value} {v : AV} (hs : SRel F w p D rows) (hk : ¬ D k) (hl : lite1 P o.op = some r)
    (ho : ∀ x ∈ o.op.operands, ∀ y, opd x = some y → VR F w p D (ev e y) (ρ x)) (hc : achR P im r e rows k row v) :
    Does P o ρ w fun u w' => ∃ F', PR F w p D k F' w' u row v := by
  rcases lite1_cases hl with hl | ⟨hl, hp⟩
  · exact ach_eff hs hk hl ho hc
  · exact ach_pure hs hk hl hp ho hc
end
end Go.Proofs.Ytcgodcpgdnfjpaa.Ai
