/-
  Calls that are given slices of rows, to read; what they give, made still. Plain facts, no condition.
-/
import Derived.Test.YtffiicopifmmfaaAiZa
import Derived.Test.YtffiicopifmmfaaAiW
namespace Go.Proofs.Ytffiicopifmmfaa.Ai
set_option linter.unusedSimpArgs false
set_option linter.unusedVariables false
set_option linter.unnecessarySimpa false
set_option linter.unusedSectionVars false
set_option linter.unusedVariables false

/-- Values that lean on no frozen memory. -/
inductive Fl : AV → Prop
  | any : Fl .any
  | bool (b : Bool) : Fl (.bool b)
  | int (k : IntKind) (n : Int) : Fl (.int k n)
  | str (s : ByteArray) : Fl (.str s)
  | nilp : Fl .nilp
  | nils : Fl .nils
  | nilf : Fl .nilf
  | nili : Fl .nili
  | nilm : Fl .nilm
  | agg (cs : List AV) (h : ∀ c ∈ cs, Fl c) : Fl (.agg cs)
  | tup (cs : List AV) (h : ∀ c ∈ cs, Fl c) : Fl (.tup cs)
  | sl (id sz i n : Nat) (c : Option Nat) : Fl (.sl id sz i n c)
  | pt (id sz i o : Nat) : Fl (.pt id sz i o)
  | ifc (t : TypeId) (v : AV) (h : Fl v) : Fl (.ifc t v)
  | roe (sz : Nat) : Fl (.roe sz)
theorem VR.flat {F F' : Nat → Prop} {w : World} {p : Place} {D : Nat → Prop} {v : AV} {u : Value} (h : VR F w p D v u) (hf : Fl v) : VR F' w p D v u := by
  induction hf generalizing u with
  | any => exact .any _
  | bool b => cases h; exact .bool b
  | int kk n => cases h; exact .int kk n
  | str s => cases h; exact .str s
  | nilp => cases h; exact .nilp
  | nils => cases h; exact .nils
  | nilf => cases h; exact .nilf
  | nili => cases h; exact .nili
  | nilm => cases h; exact .nilm
  | agg cs hc ih => cases h with | agg _ us hs h => exact .agg cs us hs fun j v hj => ih v (List.mem_of_getElem? hj) (h j v hj)
  | tup cs hc ih => cases h with | tup _ us hs h => exact .tup cs us hs fun j v hj => ih v (List.mem_of_getElem? hj) (h j v hj)
  | sl id sz i n c => cases h with | sl _ _ _ _ _ a cap hid hn hk ha => exact .sl id sz i n c a cap hid hn hk ha
  | pt id sz i o => cases h with | pt _ _ _ _ hid => exact .pt id sz i o hid
  | ifc t v hc ih => cases h with | ifc _ _ u h => exact .ifc t v u (ih h)
  | roe sz => cases h with | roe _ a cap => exact .roe sz a cap
theorem fl_any : Fl .any = True := eq_true .any
theorem fl_bool {b : Bool} : Fl (.bool b) = True := eq_true (.bool b)
theorem fl_int {kk : IntKind} {n : Int} : Fl (.int kk n) = True := eq_true (.int kk n)
theorem fl_str {s : ByteArray} : Fl (.str s) = True := eq_true (.str s)
theorem fl_nilp : Fl .nilp = True := eq_true .nilp
theorem fl_nils : Fl .nils = True := eq_true .nils
theorem fl_nilf : Fl .nilf = True := eq_true .nilf
theorem fl_nili : Fl .nili = True := eq_true .nili
theorem fl_nilm : Fl .nilm = True := eq_true .nilm
theorem fl_roe {sz : Nat} : Fl (.roe sz) = True := eq_true (.roe sz)
theorem fl_sl {id sz i n : Nat} {c : Option Nat} : Fl (.sl id sz i n c) = True := eq_true (.sl id sz i n c)
theorem fl_pt {id sz i o : Nat} : Fl (.pt id sz i o) = True := eq_true (.pt id sz i o)
theorem fl_agg {cs : List AV} : Fl (.agg cs) = ∀ c ∈ cs, Fl c := propext ⟨fun h => by cases h; assumption, .agg cs⟩
theorem fl_tup {cs : List AV} : Fl (.tup cs) = ∀ c ∈ cs, Fl c := propext ⟨fun h => by cases h; assumption, .tup cs⟩
theorem fl_ifc {t : TypeId} {v : AV} : Fl (.ifc t v) = Fl v := propext ⟨fun h => by cases h; assumption, .ifc t v⟩

def frzArg (rows : Rows) (x x' : AV) : Prop := Cv rows (fun _ => true) (fun i => i) x x' ∧ Cl x'
def flRows : Rows → Prop
  | [] => True
  | (_, r) :: l => (∀ x ∈ r.es, ∀ c ∈ x, Fl c) ∧ flRows l
theorem flRows_look {l : Rows} (h : flRows l) {id : Nat} {r : Row} (hl : look l id = some r) : ∀ x ∈ r.es, ∀ c ∈ x, Fl c := by
  induction l with
  | nil => cases hl
  | cons x l ih =>
    obtain ⟨k, q⟩ := x
    rw [look_cons] at hl
    split at hl
    · cases hl; exact h.1
    · exact ih h.2 hl

section
variable {P : Program} {f : FuncId} {xs xs' : List AV} {m : Nat} {new : Rows} {v : AV} {s : Store}
/-- A call that reads rows of the caller. -/
theorem RCall.frz (h : RCall P f xs' s.nx m new v) (hx : All2 (frzArg s.rows) xs xs') (hv : Fl v) (hnew : flRows new) : SCall P f xs s (.ret v) ⟨s.nx + m, new ++ s.rows⟩ := by
  refine ⟨h.enter, fun F w p args hs ha => ?_⟩
  have hold : ∀ b, frozenIn F p s.rows (fun _ => true) b → b < w.heap.size := by
    rintro b (hb | ⟨id, r, _, hl, rfl⟩)
    · exact hs.old b hb
    · obtain ⟨_, _, ⟨_, _, _, hb, _⟩, _⟩ := hs.row id r hl
      exact lt_of_heap hb
  have hargs : CArgs (frozenIn F p s.rows (fun _ => true)) w xs' args := by
    refine ⟨by rw [all2_len hx]; exact ha.1, fun j x' hj => ?_⟩
    have hlt : j < xs.length := by rw [← all2_len hx]; exact (List.getElem?_eq_some_iff.1 hj).1
    obtain ⟨h1, h2⟩ := all2_get hx j _ x' (List.getElem?_eq_getElem hlt) hj
    have := ha.2 j _ (List.getElem?_eq_getElem hlt)
    exact (VR.cv (D' := fun i => i < s.nx) hs (fun _ h => h) h1 this).closed h2
  refine Calls.mono (h.run _ w args hold hargs) ?_
  rintro e w' ⟨u, rfl, F', p1, hp⟩
  have hq : PRm F w p (fun i => i < s.nx) s.nx m F w' u new v (fun i => if s.nx ≤ i ∧ i < s.nx + m then p1 i else p i) := by
    have g := hp.at (p := p) (D := fun i => i < s.nx)
    refine ⟨g.grow, fun _ h => h, fun _ h => .inl h, g.keep, fun id r hl => ?_, g.apart, g.val.flat hv⟩
    obtain ⟨a1, a2, a3, _, ⟨⟨c, t, fz, hb, hf, hr, hv2⟩, hz⟩⟩ := g.nrow _ _ hl
    have hfl := flRows_look hnew hl
    exact ⟨a1, a2, a3, fun hF => by have := hs.old _ hF; omega, ⟨c, t, fz, hb, hf, hr, fun i x j v hx hj => (hv2 i x j v hx hj).flat (hfl x (List.mem_of_getElem? hx) v (List.mem_of_getElem? hj))⟩, hz⟩
  obtain ⟨h1, h2, h3, _⟩ := hq.store hs (Nat.le_refl _)
  exact ⟨F, _, .ret v u h3, h1, h2⟩
theorem PCall.frz (h : PCall P f xs' v) (hx : All2 (frzArg s.rows) xs xs') (hv : Fl v) : SCall P f xs s (.ret v) s := (h.r (k := s.nx)).frz hx hv trivial

/-- What a call gives in rows of its own, made still. -/
theorem RCall.still {v' : AV} (h : RCall P f xs 0 m new v) (hc : Cv new (fun _ => true) (fun i => i) v v') (hcl : Cl v') : PCall P f xs v' := by
  refine ⟨h.enter, fun F w args ho ha => Calls.mono (h.run F w args ho ha) ?_⟩
  rintro e w' ⟨u, rfl, F', p1, hp⟩
  have hg := hp
  have hs : SRel F' w' p1 (fun i => False ∨ (0 ≤ i ∧ i < 0 + m)) new := by
    refine ⟨fun id r hl => ?_, hg.apart, fun b hb => ?_⟩
    · obtain ⟨a1, _, _, a4, a5⟩ := hg.nrow _ _ hl
      exact ⟨.inr a1, a4, a5⟩
    · rcases hg.newF b hb with h1 | h1
      · exact Nat.lt_of_lt_of_le (ho b h1) hg.grow.size
      · exact h1.2
  refine ⟨u, rfl, frozenIn F' p1 new (fun _ => true), hg.grow, fun b hb => .inl (hg.inF b hb), ?_, (VR.cv (D' := fun i => False ∨ (0 ≤ i ∧ i < 0 + m)) hs (fun _ h => h) hc hg.val).closed hcl⟩
  rintro b (hb | ⟨id, r, _, hl, rfl⟩)
  · exact hg.newF b hb
  · obtain ⟨_, a2, a3, _⟩ := hg.nrow _ _ hl
    exact .inr ⟨a2, a3⟩
theorem RCall.emps {k : Nat} (h : ∀ ys, ys ∈ prodL (xs.map ref1) → RCall P f ys k m new v) (hne : ∃ ys, ys ∈ prodL (xs.map ref1)) : RCall P f xs k m new v := by
  obtain ⟨y0, hy0⟩ := hne
  refine ⟨(h y0 hy0).enter, (h y0 hy0).rng, fun F w args ho ha => ?_⟩
  obtain ⟨ys, h1, h2⟩ := cargs_ref ha
  exact (h ys h1).run F w args ho h2
theorem RCall.weak {ys : List AV} {k : Nat} (h : RCall P f xs k m new v) (hw : All2 Ge ys xs) : RCall P f ys k m new v := by
  refine ⟨h.enter, h.rng, fun F w args ho ha => h.run F w args ho ⟨by rw [all2_len hw]; exact ha.1, fun j x hx => ?_⟩⟩
  have hj : j < ys.length := by rw [← all2_len hw]; exact (List.getElem?_eq_some_iff.1 hx).1
  exact ge_vr (all2_get hw j _ x (List.getElem?_eq_getElem hj) hx) (ha.2 j _ (List.getElem?_eq_getElem hj))
end

/-- Two slices of a struct, empty: nil or not. -/
theorem isSl_vr {F : Nat → Prop} {w : World} {p : Place} {D : Nat → Prop} {sz : Nat} {es : List (List AV)} {u : Value} (h : VR F w p D (.ros sz es) u) : ∃ v, isSl sz v es ∧ VR F w p D v u := by
  obtain ⟨v, h1, h2⟩ := ref0_vr h
  exact ⟨v, isSl_ref h1, h2⟩
theorem agg2_vr {F : Nat → Prop} {w : World} {p : Place} {D : Nat → Prop} {s1 s2 : Nat} {o q : List (List AV)} {l : List AV} {u : Value} (h : VR F w p D (.agg (.ros s1 o :: .ros s2 q :: l)) u) :
    ∃ oV qV, isSl s1 oV o ∧ isSl s2 qV q ∧ VR F w p D (.agg (oV :: qV :: l)) u := by
  cases h with
  | agg _ us hs hh =>
    obtain ⟨oV, h1, h2⟩ := isSl_vr (hh 0 _ rfl)
    obtain ⟨qV, h3, h4⟩ := isSl_vr (hh 1 _ rfl)
    refine ⟨oV, qV, h1, h3, .agg _ us hs fun j v hj => ?_⟩
    match j, hj with
    | 0, hj => simp at hj; subst hj; exact h2
    | 1, hj => simp at hj; subst hj; exact h4
    | j + 2, hj => exact hh (j + 2) v (by simpa using hj)
theorem isSl_any (sz : Nat) (es : List (List AV)) : ∃ v, isSl sz v es := by
  cases es with
  | nil => exact ⟨.nils, .inl rfl⟩
  | cons x l => exact ⟨_, rfl⟩
section
variable {P : Program} {f : FuncId} {m k : Nat} {new : Rows} {v a : AV} {s1 s2 : Nat} {o q : List (List AV)} {l post : List AV}
theorem cargs2 {F : Nat → Prop} {w : World} {args : Array Value} (ha : CArgs F w (a :: .agg (.ros s1 o :: .ros s2 q :: l) :: post) args) : ∃ oV qV, isSl s1 oV o ∧ isSl s2 qV q ∧ CArgs F w (a :: .agg (oV :: qV :: l) :: post) args := by
  obtain ⟨oV, qV, h1, h2, h3⟩ := agg2_vr (ha.2 1 _ rfl)
  refine ⟨oV, qV, h1, h2, ha.1, fun j x hx => ?_⟩
  match j, hx with
  | 0, hx => exact ha.2 0 x (by simpa using hx)
  | 1, hx => simp at hx; subst hx; exact h3
  | j + 2, hx => exact ha.2 (j + 2) x (by simpa using hx)
theorem RCall.emp2 (h : ∀ oV qV, isSl s1 oV o → isSl s2 qV q → RCall P f (a :: .agg (oV :: qV :: l) :: post) k m new v) : RCall P f (a :: .agg (.ros s1 o :: .ros s2 q :: l) :: post) k m new v := by
  obtain ⟨o0, h1⟩ := isSl_any s1 o
  obtain ⟨q0, h2⟩ := isSl_any s2 q
  refine ⟨(h _ _ h1 h2).enter, (h _ _ h1 h2).rng, fun F w args ho ha => ?_⟩
  obtain ⟨oV, qV, k1, k2, k3⟩ := cargs2 ha
  exact (h _ _ k1 k2).run F w args ho k3
theorem PCall.emp2 (h : ∀ oV qV, isSl s1 oV o → isSl s2 qV q → PCall P f (a :: .agg (oV :: qV :: l) :: post) v) : PCall P f (a :: .agg (.ros s1 o :: .ros s2 q :: l) :: post) v := by
  obtain ⟨o0, h1⟩ := isSl_any s1 o
  obtain ⟨q0, h2⟩ := isSl_any s2 q
  refine ⟨(h _ _ h1 h2).enter, fun F w args ho ha => ?_⟩
  obtain ⟨oV, qV, k1, k2, k3⟩ := cargs2 ha
  exact (h _ _ k1 k2).run F w args ho k3
end

def dfrE (n0 : Nat) (rv : List RV) (o : AO) (s' : Store) (e : Env) (x : AX) (_ : Env) (s3 : Store) : Prop := (x = .normal ∨ x = .ret) ∧ ∃ e', Wk n0 e s3 e' s' ∧ rvsC e' s' rv ∧ o = .ret (tupV (rv.map (rvV e' s')))
theorem dfrG_eq {P : Program} {n0 : Nat} {rv : List RV} {o : AO} {s' : Store} {qG : RQ} {t1 t2 : Nat} {ys : List AV} {v : AV} {e : Env} {s : Store} :
    dfrG P n0 rv o s' qG t1 t2 ys v e s = rwp P s.nx qG (dfrE n0 rv o s' e) (put (put (argE 0 ys) (some t1) v) (some t2) v) s := rfl
theorem dfr_end {rv : List RV} {v : AV} {x : AX} {e e' e2 : Env} {s : Store} (hx : x = .normal ∨ x = .ret) (h0 : rvE rv v = some e') (h1 : cvAll s.rows e e') (h2 : rvsC e' ⟨0, []⟩ rv) (h3 : tupV (rv.map (rvV e' ⟨0, []⟩)) = v) :
    dfrE 0 rv (.ret v) ⟨0, []⟩ e x e2 s := ⟨hx, outQ_frz h0 h1 h2 h3⟩
theorem map_self {α : Type} {f : α → α} : ∀ {l : List α}, (∀ x ∈ l, f x = x) → l.map f = l
  | [], _ => rfl
  | x :: l, h => by rw [List.map_cons, h x List.mem_cons_self, map_self fun y hy => h y (List.mem_cons_of_mem _ hy)]
theorem one_roe {sz : Nat} : (AV.roe sz).one = True := rfl
theorem le0 {n : Nat} : (n + 1 ≤ 0) = False := by simp
theorem outQ_ret {rv : List RV} {v : AV} {e e' : Env} {s s1 : Store} {n0 : Nat} (h0 : rvE rv v = some e') (h1 : Wk n0 e s e' s1) (h2 : rvsC e' s1 rv) (h3 : tupV (rv.map (rvV e' s1)) = v) : outQ n0 rv (.ret v) s1 .ret e s := ⟨e', h1, h2, by rw [h3]⟩
/-- Rows by new numbers, that are found on the way. -/
def rhoA (a b c : Nat) : Nat → Nat
  | 0 => a
  | 1 => b
  | 2 => c
  | n + 3 => n + 3
theorem rhoA_0 {a b c : Nat} : rhoA a b c 0 = a := rfl
theorem rhoA_1 {a b c : Nat} : rhoA a b c 1 = b := rfl
theorem rhoA_2 {a b c : Nat} : rhoA a b c 2 = c := rfl
theorem Wk.renA {a b c : Nat} {e e' : Env} {s s' : Store} (Z : Nat → Bool) (he : envAll s.rows Z (rhoA a b c) s'.nx e e') (hr : rowsAll s.rows Z (rhoA a b c) s'.nx s'.rows)
    (hinj : ∀ q ∈ s'.rows, ∀ q' ∈ s'.rows, rhoA a b c q.1 = rhoA a b c q'.1 → q.1 = q'.1) : Wk 0 e s e' s' := Wk.ren Z _ (Nat.zero_le _) (fun i hi => absurd hi (Nat.not_lt_zero _)) he hr hinj
/-- Values that lie in no row are as they were by whatever number. -/
theorem sh_cl {v : AV} (h : Cl v) (k : Nat) : v.sh k = v := by
  induction h with
  | any => rfl
  | bool b => rfl
  | int kk n => rfl
  | str s => rfl
  | nilp => rfl
  | nils => rfl
  | nilf => rfl
  | nili => rfl
  | nilm => rfl
  | agg cs h ih => simp only [AV.sh, shL_map, AV.agg.injEq]; exact map_self ih
  | tup cs h ih => simp only [AV.sh, shL_map, AV.tup.injEq]; exact map_self ih
  | ros sz es h ih => simp only [AV.sh, shLL_map, AV.ros.injEq, true_and]; exact map_self fun x hx => map_self (ih x hx)
  | rop cs h ih => simp only [AV.sh, shL_map, AV.rop.injEq]; exact map_self ih
  | fn f xs ys h1 h2 ih1 ih2 => simp only [AV.sh, shL_map, AV.fn.injEq, true_and]; exact ⟨map_self ih1, map_self ih2⟩
  | ifc t v h ih => simp only [AV.sh, ih]
  | roe sz => rfl
  | opt t v h ih => simp only [AV.sh, ih]
theorem shLL_cl {es : List (List AV)} (h : ∀ x ∈ es, ∀ c ∈ x, Cl c) (k : Nat) : shLL k es = es := by
  rw [shLL_map]; exact map_self fun x hx => map_self fun c hc => sh_cl (h x hx c hc) k
theorem accV_sh {id sz k : Nat} {es : List (List AV)} : (accV id sz es).sh k = accV (id + k) sz es := by cases es <;> rfl
theorem accR_sh {id sz k : Nat} {es : List (List AV)} (h : ∀ x ∈ es, ∀ c ∈ x, Cl c) : shR k (accR id sz es) = accR (id + k) sz es := by
  cases es with
  | nil => rfl
  | cons x l => simp only [accR, shR, shLL_cl h]
theorem shR_append {k : Nat} {a b : Rows} : shR k (a ++ b) = shR k a ++ shR k b := by
  induction a with
  | nil => rfl
  | cons x l ih => obtain ⟨i, r⟩ := x; simp only [List.cons_append, shR, ih]
end Go.Proofs.Ytffiicopifmmfaa.Ai
