/-
  Functions, evaluated: what the evaluation of a call gives, the call gives. Plain facts, no condition.
-/
import Derived.Test.YtggmkfagcjdifaaDoorAiV
import Derived.Test.YtggmkfagcjdifaaDoorAiW
namespace Go.Proofs.YtggmkfagcjdifaaDoor.Ai
set_option linter.unusedSimpArgs false
set_option linter.unusedVariables false
set_option linter.unnecessarySimpa false
set_option linter.unusedSectionVars false
set_option linter.unusedVariables false

/-! ### Functions -/
/-- A value of which no row is written any more. -/
def frzO : Nat → Rows → AV → Option AV
  | 0, _, _ => none
  | n + 1, rows, v => match v with
    | .agg cs => (mapO (frzO n rows) cs).map .agg
    | .tup cs => (mapO (frzO n rows) cs).map .tup
    | .ros sz es => (mapO (mapO (frzO n rows)) es).map (.ros sz)
    | .rop cs => (mapO (frzO n rows) cs).map .rop
    | .sl id sz i m k => match look rows id with
      | some r => bif r.sz == sz && decide (i + m ≤ r.es.length) && ((r.es.drop i).take m).all (fun y => y.length == sz) then (mapO (mapO (frzO n rows)) ((r.es.drop i).take m)).map (.ros sz) else none
      | none => none
    | .pt _ _ _ _ => none
    | .fn f xs ys => match mapO (frzO n rows) xs, mapO (frzO n rows) ys with
      | some a, some b => some (.fn f a b)
      | _, _ => none
    | .ifc t v => (frzO n rows v).map (.ifc t)
    | .opt t v => (frzO n rows v).map (.opt t)
    | v => some v

theorem mapO_all2 {α : Type} {f : α → Option α} {R : α → α → Prop} : ∀ {l r : List α}, (∀ x y, f x = some y → R x y) → mapO f l = some r → All2 R l r
  | [], r, h, hm => by simp only [mapO, Option.some.injEq] at hm; subst hm; trivial
  | x :: l, r, h, hm => by
    simp only [mapO] at hm
    split at hm
    · rename_i a b ha hb
      simp only [Option.some.injEq] at hm; subst hm
      exact ⟨h x a ha, mapO_all2 h hb⟩
    · cases hm
theorem mapO_mem {α β : Type} {f : α → Option β} {Q : β → Prop} (h : ∀ x y, f x = some y → Q y) {l : List α} {r : List β} (hm : mapO f l = some r) : ∀ y ∈ r, Q y := by
  intro y hy
  obtain ⟨j, hj, rfl⟩ := List.getElem_of_mem hy
  obtain ⟨h1, h2⟩ := mapO_some hm
  obtain ⟨z, h3, h4⟩ := h2 j (l[j]'(by omega)) (by simp)
  rw [List.getElem?_eq_getElem hj] at h4
  cases h4
  exact h _ _ h3

theorem frz_sound {rows : Rows} : ∀ {n : Nat} {v v' : AV}, frzO n rows v = some v' → Cv rows (fun _ => true) (fun i => i) v v' ∧ Cl v'
  | 0, v, v', h => by simp [frzO] at h
  | n + 1, v, v', h => by
    have ih : ∀ x y, frzO n rows x = some y → Cv rows (fun _ => true) (fun i => i) x y ∧ Cl y := fun x y h => frz_sound h
    have l1 : ∀ {cs ds : List AV}, mapO (frzO n rows) cs = some ds → All2 (Cv rows (fun _ => true) (fun i => i)) cs ds ∧ ∀ c ∈ ds, Cl c := fun h => ⟨mapO_all2 (fun x y h => (ih x y h).1) h, mapO_mem (fun x y h => (ih x y h).2) h⟩
    have l2 : ∀ {es fs : List (List AV)}, mapO (mapO (frzO n rows)) es = some fs → All2 (All2 (Cv rows (fun _ => true) (fun i => i))) es fs ∧ ∀ x ∈ fs, ∀ c ∈ x, Cl c := fun h => ⟨mapO_all2 (fun x y h => (l1 h).1) h, mapO_mem (fun x y h => (l1 h).2) h⟩
    cases v <;> simp only [frzO, Option.some.injEq, reduceCtorEq] at h
    case any => subst h; exact ⟨.any _, .any⟩
    case bool => subst h; exact ⟨.bool _, .bool _⟩
    case int => subst h; exact ⟨.int _ _, .int _ _⟩
    case str => subst h; exact ⟨.str _, .str _⟩
    case nilp => subst h; exact ⟨.nilp, .nilp⟩
    case nils => subst h; exact ⟨.nils, .nils⟩
    case nilf => subst h; exact ⟨.nilf, .nilf⟩
    case nili => subst h; exact ⟨.nili, .nili⟩
    case nilm => subst h; exact ⟨.nilm, .nilm⟩
    case roe => subst h; exact ⟨.roe _, .roe _⟩
    case agg cs => simp only [Option.map_eq_some_iff] at h; obtain ⟨ds, h1, rfl⟩ := h; exact ⟨by rw [cv_agg]; exact (l1 h1).1, .agg _ (l1 h1).2⟩
    case tup cs => simp only [Option.map_eq_some_iff] at h; obtain ⟨ds, h1, rfl⟩ := h; exact ⟨by rw [cv_tup]; exact (l1 h1).1, .tup _ (l1 h1).2⟩
    case rop cs => simp only [Option.map_eq_some_iff] at h; obtain ⟨ds, h1, rfl⟩ := h; exact ⟨by rw [cv_rop]; exact (l1 h1).1, .rop _ (l1 h1).2⟩
    case ros sz es => simp only [Option.map_eq_some_iff] at h; obtain ⟨ds, h1, rfl⟩ := h; exact ⟨by rw [cv_ros]; exact ⟨rfl, (l2 h1).1⟩, .ros _ _ (l2 h1).2⟩
    case sl id sz i m k =>
      split at h
      · rename_i r hr
        cases hc : (r.sz == sz && decide (i + m ≤ r.es.length) && ((r.es.drop i).take m).all (fun y => y.length == sz)) with
        | false => rw [hc] at h; cases h
        | true =>
          rw [hc] at h
          simp only [cond_true, Option.map_eq_some_iff] at h
          obtain ⟨ds, h1, rfl⟩ := h
          simp only [Bool.and_eq_true, beq_iff_eq, decide_eq_true_eq] at hc
          refine ⟨cv_frz hr rfl hc.1.1 rfl hc.1.2 (fun y hy => ?_) (l2 h1).1, .ros _ _ (l2 h1).2⟩
          obtain ⟨j, hj, rfl⟩ := List.getElem_of_mem hy
          have h9 := (l2 h1).1
          have hl := all2_len h9
          have hx : j < ((r.es.drop i).take m).length := by omega
          rw [all2_len (all2_get h9 j _ _ (List.getElem?_eq_getElem hx) (List.getElem?_eq_getElem hj))]
          have := List.all_eq_true.1 hc.2 _ (List.getElem_mem hx)
          simpa using this
      · cases h
    case fn f xs ys =>
      split at h
      · rename_i a b ha hb
        simp only [Option.some.injEq] at h; subst h
        exact ⟨by rw [cv_fn]; exact ⟨rfl, (l1 ha).1, (l1 hb).1⟩, .fn _ _ _ (l1 ha).2 (l1 hb).2⟩
      · cases h
    case ifc t v => simp only [Option.map_eq_some_iff] at h; obtain ⟨ds, h1, rfl⟩ := h; exact ⟨by rw [cv_ifc]; exact ⟨rfl, (ih _ _ h1).1⟩, .ifc _ _ (ih _ _ h1).2⟩
    case opt t v => simp only [Option.map_eq_some_iff] at h; obtain ⟨ds, h1, rfl⟩ := h; exact ⟨by rw [cv_opt]; exact ⟨rfl, (ih _ _ h1).1⟩, .opt _ _ (ih _ _ h1).2⟩

theorem Cl.bel {k : Nat} {v : AV} (h : Cl v) : Bel k v := by
  induction h with
  | any => exact .any
  | bool b => exact .bool b
  | int k n => exact .int k n
  | str s => exact .str s
  | nilp => exact .nilp
  | nils => exact .nils
  | nilf => exact .nilf
  | nili => exact .nili
  | nilm => exact .nilm
  | agg cs _ ih => exact .agg cs ih
  | tup cs _ ih => exact .tup cs ih
  | ros sz es _ ih => exact .ros sz es ih
  | rop cs _ ih => exact .rop cs ih
  | fn f xs ys _ _ ih1 ih2 => exact .fn f xs ys ih1 ih2
  | ifc t v _ ih => exact .ifc t v ih
  | roe sz => exact .roe sz
  | opt t v _ ih => exact .opt t v ih

def rvT : RV → Nat
  | .t t => t
  | .c t _ _ => t
/-- The variable's cells, if a result is kept in one. -/
def rvF (rows : Rows) (e : Env) (r : RV) : Option (Nat × AV) :=
  match r with
  | .t t => (frzO 60 rows (get e t)).map fun v => (t, v)
  | .c t _ sz => match get e t with
    | .pt id q i o => match look rows id with
      | some r => bif r.sz == q && decide (i < r.es.length) && decide (o + sz ≤ q) then (mapO (frzO 60 rows) (((r.es.getD i []).drop o).take sz)).map fun cs => (t, .rop cs) else none
      | none => none
    | _ => none
def rvB (e : Env) (s : Store) : RV → Bool
  | .t t => (get e t).liveB
  | .c t _ sz => (get e t).liveB && rdB s.rows (get e t).strip sz
theorem rvB_rvs {e : Env} {s : Store} : ∀ {l : List RV}, l.all (rvB e s) = true → rvsC e s l
  | [], _ => trivial
  | .t t :: l, h => by simp only [List.all_cons, Bool.and_eq_true] at h; exact ⟨AV.liveB_live h.1, rvB_rvs h.2⟩
  | .c t g sz :: l, h => by simp only [List.all_cons, Bool.and_eq_true, rvB] at h; exact ⟨⟨AV.liveB_live h.1.1, rdB_rd h.1.2⟩, rvB_rvs h.2⟩

inductive TE where
  | fn (q : RQ) (rv : List RV) (nt : Nat)
  | df (q0 : List RP) (qB qG : RQ) (rv : List RV) (g : FuncId) (caps : List Opd) (td t1 t2 nt : Nat)
abbrev Tab := FuncId → Option TE
def fin0 (rv : List RV) : Option (AX × Env × Store) → Option AO
  | some (.normal, e, s) | some (.ret, e, s) => match mapO (rvF s.rows e) rv with
    | some e' => fV (tupV (rv.map (rvV e' ⟨0, []⟩))) fun v => bif rv.all (rvB e' ⟨0, []⟩) && clB v then some (.ret v) else none
    | none => none
  | some (.pan v, _, _) => bif clB v then some (.pan v) else none
  | _ => none
def fin1 (rv : List RV) : Option (AX × Env × Store) → Option (AO × Store)
  | some (.normal, e, s) | some (.ret, e, s) => bif rv.all (rvB e s) then some (.ret (tupV (rv.map (rvV e s))), s) else none
  | some (.pan v, _, s) => bif clB v then some (.pan v, s) else none
  | _ => none
/-- A function with a deferred closure that recovers. -/
def runD (a : Ev0) (b : Ev1) (L : Nat) (q0 : List RP) (qB qG : RQ) (g : FuncId) (caps : List Opd) (td t1 t2 : Nat) (xs : List AV) (s : Store) : Option (AX × Env × Store) :=
  match seqE a b q0 (argE 0 xs) s with
  | some (.normal, e, s1) => bif allLvB e caps then (match runE a b L qB (put e (some td) (.fn (.func g) [] (caps.map (sv e)))) (next s1 none) with
    | some (x, e2, s2) => match (match x with | .normal | .ret => some AV.nili | .pan v => some v | _ => none) with
      | some v => match runE a b L qG (put (put (argE 0 (caps.map (sv e))) (some t1) v) (some t2) v) s2 with
        | some (.normal, _, s3) | some (.ret, _, s3) => some (.ret, e2, s3)
        | _ => none
      | none => none
    | none => none) else none
  | _ => none
def runT (a : Ev0) (b : Ev1) (L : Nat) (t : TE) (xs : List AV) (s : Store) : Option (AX × Env × Store) :=
  match t with
  | .fn q _ _ => runE a b L q (argE 0 xs) s
  | .df q0 qB qG _ g caps td t1 t2 _ => runD a b L q0 qB qG g caps td t1 t2 xs s
def TE.rv : TE → List RV
  | .fn _ rv _ => rv
  | .df _ _ _ rv _ _ _ _ _ _ => rv
def TE.nt : TE → Nat
  | .fn _ _ nt => nt
  | .df _ _ _ _ _ _ _ _ _ nt => nt
/-- With its rows, as they are. -/
def finR (r : Option (AO × Store)) : Option (AO × Nat × Rows) :=
  match r with
  | some (.ret v, s) => bif s.rows.all (fun q => decide (q.1 < s.nx)) then some (.ret v, s.nx, s.rows) else none
  | _ => none
/-- fr: the functions whose rows stay what they are. -/
def evN (tab : Tab) (fr : List Nat) (L : Nat) : Nat → Ev0 × Ev1
  | 0 => (fun _ _ => none, fun _ _ _ => none)
  | n + 1 => (fun f xs => match tab f with
      | some t => bif decide (xs.length ≤ t.nt) && clL xs then
          (bif fr.contains f then finR (fin1 t.rv (runT (evN tab fr L n).1 (evN tab fr L n).2 L t xs ⟨0, []⟩))
          else (fin0 t.rv (runT (evN tab fr L n).1 (evN tab fr L n).2 L t xs ⟨0, []⟩)).map fun o => (o, 0, [])) else none
      | none => none,
    fun f xs s => match tab f with
      | some t => bif decide (xs.length ≤ t.nt) then fin1 t.rv (runT (evN tab fr L n).1 (evN tab fr L n).2 L t xs s) else none
      | none => none)

structure FunOK (P : Program) (f : FuncId) (q : RQ) (rv : List RV) (nt : Nat) : Prop where
  ok : ∃ fn c, P.funcs[f]? = some fn ∧ fn.body = some c ∧ (fn.name == "runtime.NumGoroutine") = false ∧ liteC P fn.ntmps c = some q ∧ mapO (resOf P) fn.results.toList = some rv ∧ fn.ntmps = nt
def TEOK (P : Program) (f : FuncId) : TE → Prop
  | .fn q rv nt => FunOK P f q rv nt
  | .df q0 qB qG rv g caps td t1 t2 nt => ∃ fn gn i0 i1 j0 ops0 om od orc oas cB cG capsO ats atr, DForm P f q0 qB qG rv g caps td t1 t2 fn gn i0 i1 j0 ops0 om od orc oas cB cG capsO ats atr ∧ fn.ntmps = nt
def TabOK (P : Program) (tab : Tab) : Prop := ∀ f t, tab f = some t → TEOK P f t

theorem rvF_cv {rows : Rows} {e : Env} {r : RV} {x : Nat × AV} (h : rvF rows e r = some x) : Cv rows (fun _ => true) (fun i => i) (get e x.1) x.2 ∧ Cl x.2 := by
  cases r with
  | t t =>
    simp only [rvF, Option.map_eq_some_iff] at h
    obtain ⟨v, h1, rfl⟩ := h
    exact frz_sound h1
  | c t g sz =>
    simp only [rvF] at h
    split at h
    · rename_i id q i o hg
      split at h
      · rename_i r hr
        cases hc : (r.sz == q && decide (i < r.es.length) && decide (o + sz ≤ q)) with
        | false => rw [hc] at h; cases h
        | true =>
          rw [hc] at h
          simp only [cond_true, Option.map_eq_some_iff] at h
          obtain ⟨cs, h1, rfl⟩ := h
          simp only [Bool.and_eq_true, beq_iff_eq, decide_eq_true_eq] at hc
          have h2 : All2 (Cv rows (fun _ => true) (fun i => i)) (((r.es.getD i []).drop o).take sz) cs := mapO_all2 (fun x y h => (frz_sound h).1) h1
          have h3 : ∀ c ∈ cs, Cl c := mapO_mem (fun x y h => (frz_sound h).2) h1
          have hl := all2_len h2
          rw [hg]
          refine ⟨.ptf id q i o r cs rfl hr hc.1.1 hc.1.2 (by simp at hl; omega) fun j c d hc' hd => ?_, .rop cs h3⟩
          have hj : j < sz := by have := (List.getElem?_eq_some_iff.1 hd).1; simp at hl; omega
          exact all2_get h2 j c d (by rw [List.getElem?_take, if_pos hj, List.getElem?_drop]; exact hc') hd
      · cases h
    · cases h

/-- The results' cells, made still. -/
theorem wk_fin {e e' : Env} {s : Store} {rv : List RV} (h : mapO (rvF s.rows e) rv = some e') : Wk 0 e s e' ⟨0, []⟩ := by
  refine Wk.cv (fun _ => true) (fun i => i) (Nat.zero_le _) (fun _ _ => rfl) (fun x hx => ?_) (fun q hq => by cases hq) (fun q hq => by cases hq)
  have := mapO_mem (Q := fun x => Cv s.rows (fun _ => true) (fun i => i) (get e x.1) x.2 ∧ Cl x.2) (fun r x h => rvF_cv h) h x hx
  exact ⟨this.1, this.2.bel⟩

theorem runT_sound {P : Program} {a : Ev0} {b : Ev1} {L : Nat} (hm : P.follows .mixedOrders = true) (H : CallOK P a b) {f : FuncId} {t : TE} {xs : List AV} {s s2 s' : Store} {x : AX} {e2 : Env} {o : AO} (T : TEOK P f t) (hn : xs.length ≤ t.nt) (hr : runT a b L t xs s = some (x, e2, s2))
    (hq : outQ s.nx t.rv o s' x e2 s2) : SCall P f xs s o s' := by
  cases t with
  | fn q rv nt =>
    obtain ⟨fn, c, h1, h2, h3, h4, h5, h6⟩ := T.ok
    exact scall_of hm h1 h2 h3 h4 h5 (by rw [h6]; exact hn) (runE_sound H hr hq)
  | df q0 qB qG rv g caps td t1 t2 nt =>
    obtain ⟨fn, gn, i0, i1, j0, ops0, om, od, orc, oas, cB, cG, capsO, ats, atr, d, h6⟩ := T
    refine scall_defer hm d (by rw [h6]; exact hn) ?_
    simp only [runT, runD] at hr
    split at hr
    · rename_i e s1 h0
      refine seqE_sound H (Q := fun x e s1 => match x with
        | .normal => allLv e caps ∧ rwp P (s1.nx + 1) qB (dfrQ P s.nx rv o s' qG t1 t2 (caps.map (sv e))) (put e (some td) (.fn (.func g) [] (caps.map (sv e)))) (next s1 none)
        | _ => False) ?_ h0
      cases hc : allLvB e caps with
      | false => rw [hc] at hr; cases hr
      | true =>
        rw [hc] at hr
        simp only [cond_true] at hr
        refine ⟨allLvB_all hc, ?_⟩
        split at hr
        · rename_i x3 e3 s3 h1
          refine runE_sound H h1 ?_
          have go : ∀ {v : AV}, (match runE a b L qG (put (put (argE 0 (caps.map (sv e))) (some t1) v) (some t2) v) s3 with
              | some (.normal, _, s3) | some (.ret, _, s3) => some (AX.ret, e3, s3)
              | _ => none) = some (x, e2, s2) → dfrG P s.nx rv o s' qG t1 t2 (caps.map (sv e)) v e3 s3 := by
            intro v h
            split at h
            · rename_i e4 s4 h2
              simp only [Option.some.injEq, Prod.mk.injEq] at h
              obtain ⟨rfl, rfl, rfl⟩ := h
              exact runE_sound H h2 ⟨.inl rfl, hq⟩
            · rename_i e4 s4 h2
              simp only [Option.some.injEq, Prod.mk.injEq] at h
              obtain ⟨rfl, rfl, rfl⟩ := h
              exact runE_sound H h2 ⟨.inr rfl, hq⟩
            · cases h
          cases x3 with
          | normal => exact go hr
          | ret => exact go hr
          | exit id => cases hr
          | pan v => exact go hr
        · cases hr
    · cases hr

theorem ev_sound {P : Program} {tab : Tab} {fr : List Nat} {L : Nat} (hm : P.follows .mixedOrders = true) (T : TabOK P tab) : ∀ n, CallOK P (evN tab fr L n).1 (evN tab fr L n).2
  | 0 => ⟨(fun f xs o m new h => by cases h), (fun f xs s o s' h => by cases h)⟩
  | n + 1 => by
    have H := ev_sound hm T (fr := fr) (L := L) n
    have in1 : ∀ {f : FuncId} {xs : List AV} {s s' : Store} {o : AO} {t : TE}, tab f = some t → xs.length ≤ t.nt → fin1 t.rv (runT (evN tab fr L n).1 (evN tab fr L n).2 L t xs s) = some (o, s') → SCall P f xs s o s' := by
      intro f xs s s' o t ht hc h
      cases hr : runT (evN tab fr L n).1 (evN tab fr L n).2 L t xs s with
      | none => rw [hr] at h; cases h
      | some r =>
        obtain ⟨x, e, s1⟩ := r
        rw [hr] at h
        refine runT_sound hm H (T f t ht) hc hr ?_
        have fin : (bif t.rv.all (rvB e s1) then some (AO.ret (tupV (t.rv.map (rvV e s1))), s1) else none) = some (o, s') → ∃ e', Wk s.nx e s1 e' s' ∧ rvsC e' s' t.rv ∧ o = .ret (tupV (t.rv.map (rvV e' s'))) := by
          intro h
          obtain ⟨g1, g2⟩ := bif_some h
          cases g2
          exact ⟨e, .refl, rvB_rvs g1, rfl⟩
        cases x with
        | normal => exact fin h
        | ret => exact fin h
        | exit id => cases h
        | pan v =>
          obtain ⟨g1, g2⟩ := bif_some h
          cases g2
          exact ⟨e, .refl, rfl, clB_cl g1⟩
    refine ⟨fun f xs o m new h => ?_, fun f xs s o s' h => ?_⟩
    · simp only [evN] at h
      split at h
      · rename_i t ht
        cases hc : (decide (xs.length ≤ t.nt) && clL xs) with
        | false => rw [hc] at h; cases h
        | true =>
          rw [hc] at h
          simp only [cond_true] at h
          simp only [Bool.and_eq_true, decide_eq_true_eq] at hc
          cases hfr : fr.contains f with
          | true =>
            rw [hfr] at h
            simp only [cond_true] at h
            cases h1 : fin1 t.rv (runT (evN tab fr L n).1 (evN tab fr L n).2 L t xs ⟨0, []⟩) with
            | none => rw [h1] at h; cases h
            | some r =>
              obtain ⟨o', s1⟩ := r
              rw [h1] at h
              cases o' with
              | pan v => cases h
              | ret v =>
                obtain ⟨g1, g2⟩ := bif_some h
                cases g2
                refine .inr ⟨v, rfl, (in1 ht hc.1 h1).r fun id r hl => ?_⟩
                have := List.all_eq_true.1 g1 _ (look_mem hl)
                simpa using this
          | false =>
            rw [hfr] at h
            simp only [cond_false, Option.map_eq_some_iff, Prod.mk.injEq] at h
            obtain ⟨o', h, rfl, rfl, rfl⟩ := h
            left
            cases hr : runT (evN tab fr L n).1 (evN tab fr L n).2 L t xs ⟨0, []⟩ with
            | none => rw [hr] at h; cases h
            | some r =>
              obtain ⟨x, e, s⟩ := r
              rw [hr] at h
              simp only [fin0, fV_eq] at h
              have key : outQ 0 t.rv o' ⟨0, []⟩ x e s ∧ outCl o' := by
                have fin : (match mapO (rvF s.rows e) t.rv with
                    | some e' => bif t.rv.all (rvB e' ⟨0, []⟩) && clB (tupV (t.rv.map (rvV e' ⟨0, []⟩))) then some (AO.ret (tupV (t.rv.map (rvV e' ⟨0, []⟩)))) else none
                    | none => none) = some o' → (∃ e', Wk 0 e s e' ⟨0, []⟩ ∧ rvsC e' ⟨0, []⟩ t.rv ∧ o' = .ret (tupV (t.rv.map (rvV e' ⟨0, []⟩)))) ∧ outCl o' := by
                  intro h
                  split at h
                  · rename_i e' he'
                    obtain ⟨g1, g2⟩ := bif_some h
                    subst g2
                    simp only [Bool.and_eq_true] at g1
                    exact ⟨⟨e', wk_fin he', rvB_rvs g1.1, rfl⟩, clB_cl g1.2⟩
                  · cases h
                cases x with
                | normal => exact fin h
                | ret => exact fin h
                | exit id => cases h
                | pan v =>
                  obtain ⟨g1, g2⟩ := bif_some h
                  subst g2
                  exact ⟨⟨[], wk_fin (rv := []) rfl, rfl, clB_cl g1⟩, clB_cl g1⟩
              exact ⟨rfl, rfl, runT_sound hm H (T f t ht) hc.1 hr key.1, key.2⟩
      · cases h
    · simp only [evN] at h
      split at h
      · rename_i t ht
        cases hc : (decide (xs.length ≤ t.nt)) with
        | false => rw [hc] at h; cases h
        | true =>
          rw [hc] at h
          simp only [cond_true] at h
          simp only [decide_eq_true_eq] at hc
          exact in1 ht hc h
      · cases h

/-- What is evaluated with values alone is a call's value. -/
theorem ev_pcall {P : Program} {tab : Tab} {fr : List Nat} {L n : Nat} (hm : P.follows .mixedOrders = true) (T : TabOK P tab) {f : FuncId} {xs : List AV} {v : AV} (h : (evN tab fr L n).1 f xs = some (.ret v, 0, [])) : PCall P f xs v := c0_pcall (ev_sound hm T n) h

def lkT : List (Nat × TE) → Tab
  | [], _ => none
  | (k, t) :: l, f => bif k == f then some t else lkT l f
theorem tabOK_of {P : Program} : ∀ {l : List (Nat × TE)}, (∀ x ∈ l, TEOK P x.1 x.2) → TabOK P (lkT l)
  | [], _, f, t, h => by cases h
  | (k, t') :: l, hl, f, t, h => by
    simp only [lkT] at h
    by_cases hk : k = f
    · subst hk
      simp only [beq_self_eq_true, cond_true, Option.some.injEq] at h
      subst h
      exact hl _ List.mem_cons_self
    · simp only [beq_false_of_ne hk, cond_false] at h
      exact tabOK_of (fun x hx => hl x (List.mem_cons_of_mem _ hx)) f t h
theorem te_fn {P : Program} {f : FuncId} {fn : Func} {q : RQ} {rv : List RV} {nt : Nat} (he : P.funcs[f]? = some fn) (hl : ∃ c, fn.body = some c ∧ liteC P fn.ntmps c = some q) (hn : (fn.name == "runtime.NumGoroutine") = false) (hr : mapO (resOf P) fn.results.toList = some rv) (hnt : fn.ntmps = nt) : TEOK P f (.fn q rv nt) := by
  obtain ⟨c, h1, h2⟩ := hl
  exact ⟨fn, c, he, h1, hn, h2, hr, hnt⟩

/-! The parts of a body that defers. -/
def dI0 : Option Code → Nat
  | some (.seq (.region i _ _) _) => i
  | _ => 0
def dA : Option Code → Array Oper
  | some (.seq (.region _ o _) _) => o
  | _ => #[]
def dT : Option Code → Code
  | some (.seq _ c) => c
  | _ => .skip
def dI1 (b : Option Code) : Nat := dI0 (some (dT b))
def dM (b : Option Code) : Oper := (dA (some (dT b))).getD 0 default
def dD (b : Option Code) : Oper := (dA (some (dT b))).getD 1 default
def dB (b : Option Code) : Code := dT (some (dT b))
def mkArgs : Op → Array Operand
  | .makeFunc _ _ c => c
  | _ => #[]
def callTys : Op → Array TypeId
  | .call c => c.argTypes
  | .defer c => c.argTypes
  | _ => #[]
end Go.Proofs.YtggmkfagcjdifaaDoor.Ai
