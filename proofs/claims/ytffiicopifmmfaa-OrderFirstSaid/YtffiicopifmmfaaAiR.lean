/-
  States that are forgotten in part; values by their rows. Plain facts, no condition.
-/
import Derived.Test.YtffiicopifmmfaaAiQ
namespace Go.Proofs.Ytffiicopifmmfaa.Ai
set_option linter.unusedSimpArgs false
set_option linter.unusedVariables false
set_option linter.unnecessarySimpa false
set_option linter.unusedSectionVars false
set_option linter.unusedVariables false

/-- Values whose rows are below c. -/
inductive Bel (k : Nat) : AV → Prop
  | any : Bel k .any
  | bool (b : Bool) : Bel k (.bool b)
  | int (kk : IntKind) (n : Int) : Bel k (.int kk n)
  | str (s : ByteArray) : Bel k (.str s)
  | nilp : Bel k .nilp
  | nils : Bel k .nils
  | nilf : Bel k .nilf
  | nili : Bel k .nili
  | nilm : Bel k .nilm
  | agg (cs : List AV) (h : ∀ c ∈ cs, Bel k c) : Bel k (.agg cs)
  | tup (cs : List AV) (h : ∀ c ∈ cs, Bel k c) : Bel k (.tup cs)
  | ros (sz : Nat) (es : List (List AV)) (h : ∀ x ∈ es, ∀ c ∈ x, Bel k c) : Bel k (.ros sz es)
  | rop (cs : List AV) (h : ∀ c ∈ cs, Bel k c) : Bel k (.rop cs)
  | sl (id sz i n : Nat) (c : Option Nat) (h : id < k) : Bel k (.sl id sz i n c)
  | pt (id sz i o : Nat) (h : id < k) : Bel k (.pt id sz i o)
  | fn (f : Fn) (xs ys : List AV) (h1 : ∀ c ∈ xs, Bel k c) (h2 : ∀ c ∈ ys, Bel k c) : Bel k (.fn f xs ys)
  | ifc (t : TypeId) (v : AV) (h : Bel k v) : Bel k (.ifc t v)
  | roe (sz : Nat) : Bel k (.roe sz)
  | opt (t : Bool) (v : AV) (h : Bel k v) : Bel k (.opt t v)

section
variable {k : Nat}
theorem bel_any : Bel k .any = True := eq_true .any
theorem bel_bool {b : Bool} : Bel k (.bool b) = True := eq_true (.bool b)
theorem bel_int {kk : IntKind} {n : Int} : Bel k (.int kk n) = True := eq_true (.int kk n)
theorem bel_str {s : ByteArray} : Bel k (.str s) = True := eq_true (.str s)
theorem bel_nilp : Bel k .nilp = True := eq_true .nilp
theorem bel_nils : Bel k .nils = True := eq_true .nils
theorem bel_nilf : Bel k .nilf = True := eq_true .nilf
theorem bel_nili : Bel k .nili = True := eq_true .nili
theorem bel_nilm : Bel k .nilm = True := eq_true .nilm
theorem bel_roe {sz : Nat} : Bel k (.roe sz) = True := eq_true (.roe sz)
theorem bel_agg {cs : List AV} : Bel k (.agg cs) = ∀ c ∈ cs, Bel k c := propext ⟨fun h => by cases h; assumption, .agg cs⟩
theorem bel_tup {cs : List AV} : Bel k (.tup cs) = ∀ c ∈ cs, Bel k c := propext ⟨fun h => by cases h; assumption, .tup cs⟩
theorem bel_ros {sz : Nat} {es : List (List AV)} : Bel k (.ros sz es) = ∀ x ∈ es, ∀ c ∈ x, Bel k c := propext ⟨fun h => by cases h; assumption, .ros sz es⟩
theorem bel_rop {cs : List AV} : Bel k (.rop cs) = ∀ c ∈ cs, Bel k c := propext ⟨fun h => by cases h; assumption, .rop cs⟩
theorem bel_sl {id sz i n : Nat} {c : Option Nat} : Bel k (.sl id sz i n c) = (id < k) := propext ⟨fun h => by cases h; assumption, .sl id sz i n c⟩
theorem bel_pt {id sz i o : Nat} : Bel k (.pt id sz i o) = (id < k) := propext ⟨fun h => by cases h; assumption, .pt id sz i o⟩
theorem bel_opt {t : Bool} {v : AV} : Bel k (.opt t v) = Bel k v := propext ⟨fun h => by cases h; assumption, .opt t v⟩
theorem bel_ifc {t : TypeId} {v : AV} : Bel k (.ifc t v) = Bel k v := propext ⟨fun h => by cases h; assumption, .ifc t v⟩
theorem bel_fn {f : Fn} {xs ys : List AV} : Bel k (.fn f xs ys) = ((∀ c ∈ xs, Bel k c) ∧ ∀ c ∈ ys, Bel k c) := propext ⟨fun h => by cases h; constructor <;> assumption, fun h => .fn f xs ys h.1 h.2⟩
theorem cl_any : Cl .any = True := eq_true .any
theorem cl_bool {b : Bool} : Cl (.bool b) = True := eq_true (.bool b)
theorem cl_int {kk : IntKind} {n : Int} : Cl (.int kk n) = True := eq_true (.int kk n)
theorem cl_str {s : ByteArray} : Cl (.str s) = True := eq_true (.str s)
theorem cl_nilp : Cl .nilp = True := eq_true .nilp
theorem cl_nils : Cl .nils = True := eq_true .nils
theorem cl_nilf : Cl .nilf = True := eq_true .nilf
theorem cl_nili : Cl .nili = True := eq_true .nili
theorem cl_nilm : Cl .nilm = True := eq_true .nilm
theorem cl_roe {sz : Nat} : Cl (.roe sz) = True := eq_true (.roe sz)
theorem cl_agg {cs : List AV} : Cl (.agg cs) = ∀ c ∈ cs, Cl c := propext ⟨fun h => by cases h; assumption, .agg cs⟩
theorem cl_tup {cs : List AV} : Cl (.tup cs) = ∀ c ∈ cs, Cl c := propext ⟨fun h => by cases h; assumption, .tup cs⟩
theorem cl_ros {sz : Nat} {es : List (List AV)} : Cl (.ros sz es) = ∀ x ∈ es, ∀ c ∈ x, Cl c := propext ⟨fun h => by cases h; assumption, .ros sz es⟩
theorem cl_rop {cs : List AV} : Cl (.rop cs) = ∀ c ∈ cs, Cl c := propext ⟨fun h => by cases h; assumption, .rop cs⟩
theorem cl_opt {t : Bool} {v : AV} : Cl (.opt t v) = Cl v := propext ⟨fun h => by cases h; assumption, .opt t v⟩
theorem cl_ifc {t : TypeId} {v : AV} : Cl (.ifc t v) = Cl v := propext ⟨fun h => by cases h; assumption, .ifc t v⟩
theorem cl_fn {f : Fn} {xs ys : List AV} : Cl (.fn f xs ys) = ((∀ c ∈ xs, Cl c) ∧ ∀ c ∈ ys, Cl c) := propext ⟨fun h => by cases h; constructor <;> assumption, fun h => .fn f xs ys h.1 h.2⟩
end

theorem VR.bel {F : Nat → Prop} {w : World} {p : Place} {D D' : Nat → Prop} {k : Nat} {v : AV} {u : Value} (h : VR F w p D v u) (hb : Bel k v) (hD : ∀ i, i < k → D' i) : VR F w p D' v u := by
  induction hb generalizing u with
  | any => exact .any _
  | bool b => cases h; exact .bool b
  | int kk n => cases h; exact .int kk n
  | str s => cases h; exact .str s
  | nilp => cases h; exact .nilp
  | nils => cases h; exact .nils
  | nilf => cases h; exact .nilf
  | nili => cases h; exact .nili
  | nilm => cases h; exact .nilm
  | agg cs hc ih => cases h with | agg _ us hs h => exact .agg cs us hs fun j v hj => ih v (List.mem_of_getElem? hj) (h j v hj)
  | tup cs hc ih => cases h with | tup _ us hs h => exact .tup cs us hs fun j v hj => ih v (List.mem_of_getElem? hj) (h j v hj)
  | ros sz es hc ih =>
    cases h with
    | rosNil => exact .rosNil sz
    | rosEmp _ a cap => exact .rosEmp sz a cap
    | ros _ _ b o cap c t fz hb hF hcap hsz hr h =>
      exact .ros sz es b o cap c t fz hb hF hcap hsz hr fun i x j v hx hj => ih x (List.mem_of_getElem? hx) v (List.mem_of_getElem? hj) (h i x j v hx hj)
  | rop cs hc ih => cases h with | rop _ b o c t fz hb hF hr h => exact .rop cs b o c t fz hb hF hr fun j v hj => ih v (List.mem_of_getElem? hj) (h j v hj)
  | sl id sz i n c hid => cases h with | sl _ _ _ _ _ a cap _ hn hk ha => exact .sl id sz i n c a cap (hD _ hid) hn hk ha
  | pt id sz i o hid => cases h with | pt _ _ _ _ _ => exact .pt id sz i o (hD _ hid)
  | fn f xs ys h1 h2 ih1 ih2 =>
    cases h with | fn _ _ _ us vs g1 g2 g3 g4 =>
    exact .fn f xs ys us vs g1 g2 (fun j v hj => ih1 v (List.mem_of_getElem? hj) (g3 j v hj)) (fun j v hj => ih2 v (List.mem_of_getElem? hj) (g4 j v hj))
  | ifc t v hc ih => cases h with | ifc _ _ u h => exact .ifc t v u (ih h)
  | roe sz => cases h with | roe _ a cap => exact .roe sz a cap
  | opt t v hc ih => cases h with | opt _ _ _ h1 h2 => exact .opt t v _ (fun h => ih (h1 h)) h2

theorem get_mem {e : Env} {t : Nat} : get e t = .any ∨ ∃ x ∈ e, x.1 = t ∧ get e t = x.2 := by
  induction e with
  | nil => exact .inl rfl
  | cons x l ih =>
    obtain ⟨k, v⟩ := x
    simp only [get]
    by_cases h : k = t
    · subst h; right; exact ⟨(k, v), by simp, rfl, by simp⟩
    · simp only [beq_false_of_ne h, cond_false]
      exact ih.imp (fun h => h) fun ⟨x, h1, h2, h3⟩ => ⟨x, by simp [h1], h2, h3⟩

theorem look_mem {rows : Rows} {id : Nat} {r : Row} (h : look rows id = some r) : (id, r) ∈ rows := by
  induction rows with
  | nil => cases h
  | cons x l ih =>
    obtain ⟨k, q⟩ := x
    rw [look_cons] at h
    split at h
    · rename_i hid; cases h; subst hid; simp
    · exact List.mem_cons_of_mem _ (ih h)

/-- The state with less of it. -/
theorem Wk.to {n0 : Nat} {e e' : Env} {s : Store} {c : Nat} {rows : Rows} (hc : n0 ≤ c) (hs : c ≤ s.nx) (he : ∀ x ∈ e', get e x.1 = x.2 ∧ Bel c x.2)
    (hr : ∀ q ∈ rows, look s.rows q.1 = some q.2 ∧ q.1 < c ∧ ∀ x ∈ q.2.es, ∀ v ∈ x, Bel c v) : Wk n0 e s e' ⟨c, rows⟩ := by
  intro N F w p a hn hrel
  have hl : ∀ id r, look rows id = some r → look s.rows id = some r ∧ id < c ∧ ∀ x ∈ r.es, ∀ v ∈ x, Bel c v := fun id r h => hr (id, r) (look_mem h)
  refine ⟨F, p, ⟨⟨hrel.env.size, fun t => ?_⟩, ⟨fun id r h => ?_, fun id id' r r' h h' => hrel.sto.apart id id' r r' (hl _ _ h).1 (hl _ _ h').1, hrel.sto.old⟩⟩, ?_⟩
  · rcases get_mem (e := e') (t := t) with h | ⟨x, hx, rfl, h⟩
    · rw [h]; exact .any _
    · rw [h]
      obtain ⟨h1, h2⟩ := he x hx
      have := hrel.env.val x.1
      rw [h1] at this
      exact this.bel h2 (fun i hi => hi)
  · obtain ⟨h1, h2, h3⟩ := hl id r h
    obtain ⟨g1, g2, ⟨cc, t, fz, hb, hf, hrr, hv⟩, hz⟩ := hrel.sto.row id r h1
    exact ⟨h2, g2, ⟨cc, t, fz, hb, hf, hrr, fun i x j v hx hj => (hv i x j v hx hj).bel (h3 x (List.mem_of_getElem? hx) v (List.mem_of_getElem? hj)) (fun i hi => hi)⟩, hz⟩
  · refine ⟨rfl, rfl, rfl, Nat.le_refl _, fun _ _ _ => rfl, fun b c t fz hb => ⟨c, t, fz, hb, rfl⟩, fun _ h => h, fun _ h => .inl h, ?_, fun _ _ => rfl, hc⟩
    rintro b ⟨id, r, h, rfl⟩
    exact .inr ⟨id, r, (hl id r h).1, rfl⟩


/-! ### States that are told otherwise: rows by other numbers, rows that nobody writes any more -/

/-- v' says no more than v: rho: a new number's old one; Z: the rows that are frozen. -/
inductive Cv (rows : Rows) (Z : Nat → Bool) (rho : Nat → Nat) : AV → AV → Prop
  | any (v : AV) : Cv rows Z rho v .any
  | bool (b : Bool) : Cv rows Z rho (.bool b) (.bool b)
  | int (k : IntKind) (n : Int) : Cv rows Z rho (.int k n) (.int k n)
  | str (s : ByteArray) : Cv rows Z rho (.str s) (.str s)
  | nilp : Cv rows Z rho .nilp .nilp
  | nils : Cv rows Z rho .nils .nils
  | nilsR (sz : Nat) : Cv rows Z rho .nils (.ros sz [])
  | nilf : Cv rows Z rho .nilf .nilf
  | nili : Cv rows Z rho .nili .nili
  | nilm : Cv rows Z rho .nilm .nilm
  | roe (sz : Nat) : Cv rows Z rho (.roe sz) (.roe sz)
  | agg (cs ds : List AV) (hl : ds.length = cs.length) (h : ∀ (j : Nat) (c d : AV), cs[j]? = some c → ds[j]? = some d → Cv rows Z rho c d) : Cv rows Z rho (.agg cs) (.agg ds)
  | tup (cs ds : List AV) (hl : ds.length = cs.length) (h : ∀ (j : Nat) (c d : AV), cs[j]? = some c → ds[j]? = some d → Cv rows Z rho c d) : Cv rows Z rho (.tup cs) (.tup ds)
  | ros (sz : Nat) (es fs : List (List AV)) (hl : fs.length = es.length) (hl2 : ∀ (i : Nat) (x y : List AV), es[i]? = some x → fs[i]? = some y → y.length = x.length)
      (h : ∀ (i : Nat) (x y : List AV) (j : Nat) (c d : AV), es[i]? = some x → fs[i]? = some y → x[j]? = some c → y[j]? = some d → Cv rows Z rho c d) : Cv rows Z rho (.ros sz es) (.ros sz fs)
  | rop (cs ds : List AV) (hl : ds.length = cs.length) (h : ∀ (j : Nat) (c d : AV), cs[j]? = some c → ds[j]? = some d → Cv rows Z rho c d) : Cv rows Z rho (.rop cs) (.rop ds)
  | sl (id id' sz i n : Nat) (k k' : Option Nat) (hid : id = rho id') (hk : k' = k ∨ k' = none) : Cv rows Z rho (.sl id sz i n k) (.sl id' sz i n k')
  | slf (id sz i n : Nat) (k : Option Nat) (r : Row) (fs : List (List AV)) (hz : Z id = true) (hr : look rows id = some r) (hsz : r.sz = sz) (hin : i + n ≤ r.es.length) (hl : fs.length = n)
      (hl2 : ∀ y ∈ fs, y.length = sz) (h : ∀ (q : Nat) (x y : List AV) (j : Nat) (c d : AV), r.es[i + q]? = some x → fs[q]? = some y → x[j]? = some c → y[j]? = some d → Cv rows Z rho c d) : Cv rows Z rho (.sl id sz i n k) (.ros sz fs)
  | pt (id id' sz i o : Nat) (hid : id = rho id') : Cv rows Z rho (.pt id sz i o) (.pt id' sz i o)
  | ptf (id sz i o : Nat) (r : Row) (ds : List AV) (hz : Z id = true) (hr : look rows id = some r) (hsz : r.sz = sz) (hi : i < r.es.length) (hl : o + ds.length ≤ sz)
      (h : ∀ (j : Nat) (c d : AV), (r.es.getD i [])[o + j]? = some c → ds[j]? = some d → Cv rows Z rho c d) : Cv rows Z rho (.pt id sz i o) (.rop ds)
  | fn (f : Fn) (xs ys xs' ys' : List AV) (h1 : xs'.length = xs.length) (h2 : ys'.length = ys.length) (h3 : ∀ (j : Nat) (c d : AV), xs[j]? = some c → xs'[j]? = some d → Cv rows Z rho c d)
      (h4 : ∀ (j : Nat) (c d : AV), ys[j]? = some c → ys'[j]? = some d → Cv rows Z rho c d) : Cv rows Z rho (.fn f xs ys) (.fn f xs' ys')
  | ifc (t : TypeId) (v v' : AV) (h : Cv rows Z rho v v') : Cv rows Z rho (.ifc t v) (.ifc t v')
  | opt (t : Bool) (v v' : AV) (h : Cv rows Z rho v v') : Cv rows Z rho (.opt t v) (.opt t v')

def frozenIn (F : Nat → Prop) (p : Place) (rows : Rows) (Z : Nat → Bool) (b : Nat) : Prop := F b ∨ ∃ id r, Z id = true ∧ look rows id = some r ∧ (p id).1 = b

theorem two_get {cs ds : List AV} {us : Array Value} {R : AV → Value → Prop} {S : AV → AV → Prop} (hl : ds.length = cs.length) (h : ∀ j v, cs[j]? = some v → R v (us.getD j undef)) {j : Nat} {d : AV} (hd : ds[j]? = some d) : ∃ c, cs[j]? = some c ∧ R c (us.getD j undef) := by
  have : j < cs.length := by rw [← hl]; exact (List.getElem?_eq_some_iff.1 hd).1
  exact ⟨_, List.getElem?_eq_getElem this, h j _ (List.getElem?_eq_getElem this)⟩

theorem VR.cv {F : Nat → Prop} {w : World} {p : Place} {D D' : Nat → Prop} {rows : Rows} {Z : Nat → Bool} {rho : Nat → Nat} (hs : SRel F w p D rows) (hD : ∀ id', D (rho id') → D' id') {v v' : AV} (hc : Cv rows Z rho v v') :
    ∀ {u : Value}, VR F w p D v u → VR (frozenIn F p rows Z) w (p ∘ rho) D' v' u := by
  have inF : ∀ {b}, F b → frozenIn F p rows Z b := fun h => .inl h
  have pick : ∀ {cs ds : List AV} {j : Nat} {d : AV}, ds.length = cs.length → ds[j]? = some d → ∃ c, cs[j]? = some c := fun hl hd => by
    have := (List.getElem?_eq_some_iff.1 hd).1
    exact ⟨_, List.getElem?_eq_getElem (by omega)⟩
  induction hc with
  | any v => intro u h; exact .any u
  | bool b => intro u h; cases h; exact .bool b
  | int k n => intro u h; cases h; exact .int k n
  | str s => intro u h; cases h; exact .str s
  | nilp => intro u h; cases h; exact .nilp
  | nils => intro u h; cases h; exact .nils
  | nilsR sz => intro u h; cases h; exact .rosNil sz
  | nilf => intro u h; cases h; exact .nilf
  | nili => intro u h; cases h; exact .nili
  | nilm => intro u h; cases h; exact .nilm
  | roe sz => intro u h; cases h with | roe _ a cap => exact .roe sz a cap
  | agg cs ds hl hh ih =>
    intro u h
    cases h with | agg _ us h1 h2 =>
    refine .agg ds us (by rw [hl, h1]) fun j d hd => ?_
    obtain ⟨c, hc⟩ := pick hl hd
    exact ih j c d hc hd (h2 j c hc)
  | tup cs ds hl hh ih =>
    intro u h
    cases h with | tup _ us h1 h2 =>
    refine .tup ds us (by rw [hl, h1]) fun j d hd => ?_
    obtain ⟨c, hc⟩ := pick hl hd
    exact ih j c d hc hd (h2 j c hc)
  | ros sz es fs hl hl2 hh ih =>
    intro u h
    cases h with
    | rosNil => have : fs = [] := List.eq_nil_of_length_eq_zero (by simpa using hl)
                subst this; exact .rosNil sz
    | rosEmp _ a cap => have : fs = [] := List.eq_nil_of_length_eq_zero (by simpa using hl)
                        subst this; exact .rosEmp sz a cap
    | ros _ _ b o cap c t fz hb hF hcap hsz hr h =>
      rw [← hl]
      refine .ros sz fs b o cap c t fz hb (inF hF) (by omega) (fun y hy => ?_) (by rw [hl]; exact hr) fun i y j d hy hd => ?_
      · obtain ⟨i, hi, rfl⟩ := List.getElem_of_mem hy
        have hx : i < es.length := by omega
        rw [hl2 i _ _ (List.getElem?_eq_getElem hx) (List.getElem?_eq_getElem hi)]
        exact hsz _ (List.getElem_mem hx)
      · have hx : i < es.length := by rw [← hl]; exact (List.getElem?_eq_some_iff.1 hy).1
        have h9 := hl2 i _ _ (List.getElem?_eq_getElem hx) hy
        have hj : j < (es[i]).length := by rw [← h9]; exact (List.getElem?_eq_some_iff.1 hd).1
        exact ih i _ y j _ d (List.getElem?_eq_getElem hx) hy (List.getElem?_eq_getElem hj) hd (h i _ j _ (List.getElem?_eq_getElem hx) (List.getElem?_eq_getElem hj))
  | rop cs ds hl hh ih =>
    intro u h
    cases h with | rop _ b o c t fz hb hF hr h =>
    refine .rop ds b o c t fz hb (inF hF) (by rw [hl]; exact hr) fun j d hd => ?_
    obtain ⟨c', hc⟩ := pick hl hd
    exact ih j c' d hc hd (h j c' hc)
  | sl id id' sz i n k k' hid hk =>
    intro u h
    cases h with | sl _ _ _ _ _ a cap hd hn hkk ha =>
    subst hid
    exact .sl id' sz i n k' a cap (hD _ hd) hn (fun m hm => by rcases hk with rfl | rfl
                                                               · exact hkk m hm
                                                               · cases hm) ha
  | slf id sz i n k r fs hz hr hsz hin hl hl2 hh ih =>
    intro u h
    cases h with | sl _ _ _ _ _ a cap hd hn hkk ha =>
    rcases Nat.eq_zero_or_pos n with h0 | h0
    · subst h0
      have : fs = [] := List.eq_nil_of_length_eq_zero hl
      subst this
      cases a with
      | none =>
        rcases ha with rfl | ⟨_, _, _, h9, _⟩
        · exact .rosNil sz
        · cases h9
      | some a => exact .rosEmp sz a cap
    · rcases ha with ha | ⟨c, t, fz, rfl, hb, hsize⟩
      · omega
      · obtain ⟨_, _, ⟨⟨c2, t2, fz2, hb2, hf2, hr2, hv2⟩, hz2⟩⟩ := hs.row id r hr
        rw [hb] at hb2; cases hb2
        subst hsz
        rw [← hl]
        refine .ros r.sz fs _ _ cap c t fz hb (.inr ⟨id, r, hz, hr, rfl⟩) (by omega) hl2 ?_ fun q y j d hy hd => ?_
        · have : (i + n) * r.sz ≤ r.es.length * r.sz := Nat.mul_le_mul_right _ hin
          rw [hl]
          rw [Nat.add_mul] at this
          omega
        · have hq : q < n := by rw [← hl]; exact (List.getElem?_eq_some_iff.1 hy).1
          have hx : i + q < r.es.length := by omega
          have hxl := hz2 _ (List.getElem_mem hx)
          have hj : j < (r.es[i + q]).length := by
            rw [hxl, ← hl2 y (List.mem_of_getElem? hy)]; exact (List.getElem?_eq_some_iff.1 hd).1
          have := ih q _ y j _ d (List.getElem?_eq_getElem hx) hy (List.getElem?_eq_getElem hj) hd (hv2 (i + q) _ j _ (List.getElem?_eq_getElem hx) (List.getElem?_eq_getElem hj))
          rwa [show (p id).2 + (i + q) * r.sz + j = (p id).2 + i * r.sz + q * r.sz + j by rw [Nat.add_mul]; omega] at this
  | pt id id' sz i o hid => intro u h; cases h with | pt _ _ _ _ hd => subst hid; exact .pt id' sz i o (hD _ hd)
  | ptf id sz i o r ds hz hr hsz hi hl hh ih =>
    intro u h
    cases h with | pt _ _ _ _ hd =>
    obtain ⟨_, _, ⟨⟨c, t, fz, hb, hf2, hr2, hv2⟩, hz2⟩⟩ := hs.row id r hr
    subst hsz
    have hx : r.es[i]? = some (r.es.getD i []) := by simp [List.getD, List.getElem?_eq_getElem hi]
    have hxl : (r.es.getD i []).length = r.sz := by
      simp only [List.getD, List.getElem?_eq_getElem hi, Option.getD_some]
      exact hz2 _ (List.getElem_mem hi)
    have hmul : (i + 1) * r.sz ≤ r.es.length * r.sz := Nat.mul_le_mul_right _ hi
    rw [Nat.add_mul, Nat.one_mul] at hmul
    refine .rop ds _ _ c t fz hb (.inr ⟨id, r, hz, hr, rfl⟩) (by omega) fun j d hd' => ?_
    have hj : j < ds.length := (List.getElem?_eq_some_iff.1 hd').1
    have hj2 : o + j < (r.es.getD i []).length := by omega
    have := ih j _ d (List.getElem?_eq_getElem hj2) hd' (hv2 i _ (o + j) _ hx (List.getElem?_eq_getElem hj2))
    rwa [show (p id).2 + i * r.sz + (o + j) = (p id).2 + i * r.sz + o + j by omega] at this
  | fn f xs ys xs' ys' h1 h2 h3 h4 ih3 ih4 =>
    intro u h
    cases h with | fn _ _ _ us vs g1 g2 g3 g4 =>
    refine .fn f xs' ys' us vs (by rw [h1, g1]) (by rw [h2, g2]) (fun j d hd => ?_) (fun j d hd => ?_)
    · obtain ⟨c, hc⟩ := pick h1 hd
      exact ih3 j c d hc hd (g3 j c hc)
    · obtain ⟨c, hc⟩ := pick h2 hd
      exact ih4 j c d hc hd (g4 j c hc)
  | ifc t v v' hv ih => intro u h; cases h with | ifc _ _ u0 h0 => exact .ifc t v' u0 (ih h0)
  | opt t v v' hv ih => intro u h; cases h with | opt _ _ _ h1 h2 => exact .opt t v' u (fun h => ih (h1 h)) h2

/-- Two lists, item by item. -/
def All2 {α : Type} (R : α → α → Prop) : List α → List α → Prop
  | [], [] => True
  | c :: cs, d :: ds => R c d ∧ All2 R cs ds
  | _, _ => False
theorem all2_len {α : Type} {R : α → α → Prop} : ∀ {cs ds : List α}, All2 R cs ds → ds.length = cs.length
  | [], [], _ => rfl
  | c :: cs, d :: ds, h => by simp [all2_len h.2]
  | [], _ :: _, h => h.elim
  | _ :: _, [], h => h.elim
theorem all2_get {α : Type} {R : α → α → Prop} : ∀ {cs ds : List α}, All2 R cs ds → ∀ (j : Nat) (c d : α), cs[j]? = some c → ds[j]? = some d → R c d
  | [], [], _, j, c, d, h, _ => by simp at h
  | c :: cs, d :: ds, h, j, x, y, hx, hy => by
    cases j with
    | zero => simp at hx hy; subst hx; subst hy; exact h.1
    | succ j => exact all2_get h.2 j x y (by simpa using hx) (by simpa using hy)
  | [], _ :: _, h, _, _, _, _, _ => h.elim
  | _ :: _, [], h, _, _, _, _, _ => h.elim
theorem all2_of {α : Type} {R : α → α → Prop} : ∀ {cs ds : List α}, ds.length = cs.length → (∀ (j : Nat) (c d : α), cs[j]? = some c → ds[j]? = some d → R c d) → All2 R cs ds
  | [], [], _, _ => trivial
  | c :: cs, d :: ds, hl, h => ⟨h 0 c d rfl rfl, all2_of (by simpa using hl) fun j x y hx hy => h (j + 1) x y (by simpa using hx) (by simpa using hy)⟩
  | [], _ :: _, hl, _ => by simp at hl
  | _ :: _, [], hl, _ => by simp at hl

section
variable {rows : Rows} {Z : Nat → Bool} {rho : Nat → Nat}
theorem cv_any {v : AV} : Cv rows Z rho v .any = True := eq_true (.any v)
theorem cv_bool {b c : Bool} : Cv rows Z rho (.bool b) (.bool c) = (b = c) := propext ⟨fun h => by cases h; rfl, fun h => h ▸ .bool b⟩
theorem cv_int {k l : IntKind} {n m : Int} : Cv rows Z rho (.int k n) (.int l m) = (k = l ∧ n = m) := propext ⟨fun h => by cases h; exact ⟨rfl, rfl⟩, fun ⟨h1, h2⟩ => h1 ▸ h2 ▸ .int k n⟩
theorem cv_str {b c : ByteArray} : Cv rows Z rho (.str b) (.str c) = (b = c) := propext ⟨fun h => by cases h; rfl, fun h => h ▸ .str b⟩
theorem cv_nilp : Cv rows Z rho .nilp .nilp = True := eq_true .nilp
theorem cv_nils : Cv rows Z rho .nils .nils = True := eq_true .nils
theorem cv_nilsR {sz : Nat} {es : List (List AV)} : Cv rows Z rho .nils (.ros sz es) = (es = []) := propext ⟨fun h => by cases h; rfl, fun h => h ▸ .nilsR sz⟩
theorem cv_nilf : Cv rows Z rho .nilf .nilf = True := eq_true .nilf
theorem cv_nili : Cv rows Z rho .nili .nili = True := eq_true .nili
theorem cv_nilm : Cv rows Z rho .nilm .nilm = True := eq_true .nilm
theorem cv_agg {cs ds : List AV} : Cv rows Z rho (.agg cs) (.agg ds) = All2 (Cv rows Z rho) cs ds := propext ⟨fun h => by cases h with | agg _ _ hl h => exact all2_of hl h, fun h => .agg cs ds (all2_len h) (all2_get h)⟩
theorem cv_tup {cs ds : List AV} : Cv rows Z rho (.tup cs) (.tup ds) = All2 (Cv rows Z rho) cs ds := propext ⟨fun h => by cases h with | tup _ _ hl h => exact all2_of hl h, fun h => .tup cs ds (all2_len h) (all2_get h)⟩
theorem cv_rop {cs ds : List AV} : Cv rows Z rho (.rop cs) (.rop ds) = All2 (Cv rows Z rho) cs ds := propext ⟨fun h => by cases h with | rop _ _ hl h => exact all2_of hl h, fun h => .rop cs ds (all2_len h) (all2_get h)⟩
theorem cv_ros {sz q : Nat} {es fs : List (List AV)} : Cv rows Z rho (.ros sz es) (.ros q fs) = (sz = q ∧ All2 (All2 (Cv rows Z rho)) es fs) := propext
  ⟨fun h => by cases h with | ros _ _ _ hl hl2 h => exact ⟨rfl, all2_of hl fun i x y hx hy => all2_of (hl2 i x y hx hy) fun j c d hc hd => h i x y j c d hx hy hc hd⟩,
   fun ⟨h1, h2⟩ => h1 ▸ .ros sz es fs (all2_len h2) (fun i x y hx hy => all2_len (all2_get h2 i x y hx hy)) (fun i x y j c d hx hy hc hd => all2_get (all2_get h2 i x y hx hy) j c d hc hd)⟩
theorem cv_sl {id id' sz sz' i i' n n' : Nat} {k k' : Option Nat} : Cv rows Z rho (.sl id sz i n k) (.sl id' sz' i' n' k') = (id = rho id' ∧ sz = sz' ∧ i = i' ∧ n = n' ∧ (k' = k ∨ k' = none)) := propext
  ⟨fun h => by cases h with | sl _ _ _ _ _ _ _ h1 h2 => exact ⟨h1, rfl, rfl, rfl, h2⟩, fun ⟨h1, h2, h3, h4, h5⟩ => by subst h2; subst h3; subst h4; exact .sl id id' sz i n k k' h1 h5⟩
theorem cv_pt {id id' sz sz' i i' o o' : Nat} : Cv rows Z rho (.pt id sz i o) (.pt id' sz' i' o') = (id = rho id' ∧ sz = sz' ∧ i = i' ∧ o = o') := propext
  ⟨fun h => by cases h with | pt _ _ _ _ _ h1 => exact ⟨h1, rfl, rfl, rfl⟩, fun ⟨h1, h2, h3, h4⟩ => by subst h2; subst h3; subst h4; exact .pt id id' sz i o h1⟩
theorem cv_fn {f f' : Fn} {xs ys xs' ys' : List AV} : Cv rows Z rho (.fn f xs ys) (.fn f' xs' ys') = (f = f' ∧ All2 (Cv rows Z rho) xs xs' ∧ All2 (Cv rows Z rho) ys ys') := propext
  ⟨fun h => by cases h with | fn _ _ _ _ _ h1 h2 h3 h4 => exact ⟨rfl, all2_of h1 h3, all2_of h2 h4⟩, fun ⟨h1, h2, h3⟩ => h1 ▸ .fn f xs ys xs' ys' (all2_len h2) (all2_len h3) (all2_get h2) (all2_get h3)⟩
theorem cv_ifc {t t' : TypeId} {v v' : AV} : Cv rows Z rho (.ifc t v) (.ifc t' v') = (t = t' ∧ Cv rows Z rho v v') := propext ⟨fun h => by cases h with | ifc _ _ _ h => exact ⟨rfl, h⟩, fun ⟨h1, h2⟩ => h1 ▸ .ifc t v v' h2⟩
theorem cv_opt {t t' : Bool} {v v' : AV} : Cv rows Z rho (.opt t v) (.opt t' v') = (t = t' ∧ Cv rows Z rho v v') := propext ⟨fun h => by cases h with | opt _ _ _ h => exact ⟨rfl, h⟩, fun ⟨h1, h2⟩ => h1 ▸ .opt t v v' h2⟩
/-- A row that nobody writes any more. -/
theorem cv_frz {id sz q i n : Nat} {k : Option Nat} {fs : List (List AV)} {r : Row} (hr : look rows id = some r) (hz : Z id = true) (h1 : r.sz = sz) (h2 : q = sz) (h3 : i + n ≤ r.es.length) (hw : ∀ y ∈ fs, y.length = sz) (h4 : All2 (All2 (Cv rows Z rho)) ((r.es.drop i).take n) fs) :
    Cv rows Z rho (.sl id sz i n k) (.ros q fs) := by
  subst h2
  have hl := all2_len h4
  have hlen : ((r.es.drop i).take n).length = n := by simp; omega
  refine .slf id _ i n k r fs hz hr h1 h3 (by omega) hw fun qq x y j c d hx hy hc hd => ?_
  have hq : qq < n := by have := (List.getElem?_eq_some_iff.1 hy).1; omega
  have hx' : ((r.es.drop i).take n)[qq]? = some x := by rw [List.getElem?_take, if_pos hq, List.getElem?_drop]; exact hx
  exact all2_get (all2_get h4 qq x y hx' hy) j c d hc hd
theorem all2_cons {α : Type} {R : α → α → Prop} {c d : α} {cs ds : List α} : All2 R (c :: cs) (d :: ds) = (R c d ∧ All2 R cs ds) := rfl
theorem all2_nil {α : Type} {R : α → α → Prop} : All2 R ([] : List α) [] = True := rfl
end

theorem VR.bel' {F : Nat → Prop} {w : World} {p : Place} {D : Nat → Prop} {k : Nat} {v : AV} {u : Value} (h : VR F w p D v u) (hb : Bel k v) : VR F w p (fun i => i < k) v u := h.bel hb fun _ h => h

/-- The state, told otherwise. -/
theorem Wk.cv {n0 : Nat} {e e' : Env} {s s' : Store} (Z : Nat → Bool) (rho : Nat → Nat) (hn : n0 ≤ s'.nx) (h0 : ∀ i, i < n0 → rho i = i)
    (he : ∀ x ∈ e', Cv s.rows Z rho (get e x.1) x.2 ∧ Bel s'.nx x.2)
    (hr : ∀ q ∈ s'.rows, q.1 < s'.nx ∧ ∃ r, look s.rows (rho q.1) = some r ∧ Z (rho q.1) = false ∧ q.2.sz = r.sz ∧ All2 (All2 (Cv s.rows Z rho)) r.es q.2.es ∧ ∀ x ∈ q.2.es, ∀ v ∈ x, Bel s'.nx v)
    (hinj : ∀ q ∈ s'.rows, ∀ q' ∈ s'.rows, rho q.1 = rho q'.1 → q.1 = q'.1) : Wk n0 e s e' s' := by
  intro N F w p a hnx hrel
  have hs := hrel.sto
  have hV : ∀ {v v' : AV} {u : Value}, Cv s.rows Z rho v v' → Bel s'.nx v' → VR F w p (fun i => i < s.nx) v u → VR (frozenIn F p s.rows Z) w (p ∘ rho) (fun i => i < s'.nx) v' u := fun hc hb hv =>
    (VR.cv (D' := fun i => rho i < s.nx) hs (fun _ h => h) hc hv).bel' hb
  have hl : ∀ id r, look s'.rows id = some r → id < s'.nx ∧ ∃ r0, look s.rows (rho id) = some r0 ∧ Z (rho id) = false ∧ r.sz = r0.sz ∧ All2 (All2 (Cv s.rows Z rho)) r0.es r.es ∧ ∀ x ∈ r.es, ∀ v ∈ x, Bel s'.nx v := fun id r h => hr (id, r) (look_mem h)
  refine ⟨frozenIn F p s.rows Z, p ∘ rho, ⟨⟨hrel.env.size, fun t => ?_⟩, ⟨fun id r h => ?_, fun id id' r r' h h' hne => ?_, ?_⟩⟩, ?_⟩
  · rcases get_mem (e := e') (t := t) with h | ⟨x, hx, rfl, h⟩
    · rw [h]; exact .any _
    · rw [h]
      obtain ⟨h1, h2⟩ := he x hx
      exact hV h1 h2 (hrel.env.val x.1)
  · obtain ⟨h1, r0, h2, h3, h4, h5, h6⟩ := hl id r h
    obtain ⟨g1, g2, ⟨⟨c, t, fz, hb, hf, hrr, hv⟩, hz⟩⟩ := hs.row _ r0 h2
    refine ⟨h1, ?_, ⟨⟨c, t, fz, hb, hf, by rw [h4, all2_len h5]; exact hrr, fun i y j d hy hd => ?_⟩, fun y hy => ?_⟩⟩
    · rintro (h | ⟨id1, r1, k1, k2, k3⟩)
      · exact g2 h
      · by_cases h9 : rho id = id1
        · subst h9; rw [h3] at k1; cases k1
        · exact hs.apart _ _ _ _ h2 k2 h9 k3.symm
    · have hx : i < r0.es.length := by rw [← all2_len h5]; exact (List.getElem?_eq_some_iff.1 hy).1
      have h9 := all2_get h5 i _ y (List.getElem?_eq_getElem hx) hy
      have hj : j < (r0.es[i]).length := by rw [← all2_len h9]; exact (List.getElem?_eq_some_iff.1 hd).1
      rw [h4]
      exact hV (all2_get h9 j _ d (List.getElem?_eq_getElem hj) hd) (h6 y (List.mem_of_getElem? hy) d (List.mem_of_getElem? hd)) (hv i _ j _ (List.getElem?_eq_getElem hx) (List.getElem?_eq_getElem hj))
    · obtain ⟨i, hi, rfl⟩ := List.getElem_of_mem hy
      have hx : i < r0.es.length := by rw [← all2_len h5]; exact hi
      rw [all2_len (all2_get h5 i _ _ (List.getElem?_eq_getElem hx) (List.getElem?_eq_getElem hi)), h4]
      exact hz _ (List.getElem_mem hx)
  · obtain ⟨_, r0, h2, _⟩ := hl id r h
    obtain ⟨_, r0', h2', _⟩ := hl id' r' h'
    exact hs.apart _ _ _ _ h2 h2' fun e => hne (hinj _ (look_mem h) _ (look_mem h') e)
  · rintro b (h | ⟨id, r, _, h, rfl⟩)
    · exact hs.old b h
    · obtain ⟨_, _, ⟨⟨_, _, _, hb, _⟩, _⟩⟩ := hs.row id r h
      exact lt_of_heap hb
  · refine ⟨rfl, rfl, rfl, Nat.le_refl _, fun _ _ _ => rfl, fun b c t fz hb => ⟨c, t, fz, hb, rfl⟩, fun _ h => .inl h, ?_, ?_, fun id hid => by simp only [Function.comp, h0 id hid], hn⟩
    · rintro b (h | ⟨id, r, _, h, rfl⟩)
      · exact .inl h
      · exact .inr (.inr ⟨id, r, h, rfl⟩)
    · rintro b ⟨id, r, h, rfl⟩
      obtain ⟨_, r0, h2, _⟩ := hl id r h
      exact .inr ⟨_, r0, h2, rfl⟩

theorem ret_now {n0 : Nat} {rv : List RV} {v : AV} {e : Env} {s : Store} (h1 : rvsC e s rv) (h2 : tupV (rv.map (rvV e s)) = v) (h3 : Cl v) : retQ n0 rv v .ret e s := ⟨e, s, .refl, h1, h2, h3⟩
theorem end_now {n0 : Nat} {rv : List RV} {v : AV} {e : Env} {s : Store} (h1 : rvsC e s rv) (h2 : tupV (rv.map (rvV e s)) = v) (h3 : Cl v) : retQ n0 rv v .normal e s := ⟨e, s, .refl, h1, h2, h3⟩

section
variable {P : Program} {n0 : Nat} {Q : AX → Env → Store → Prop} {e : Env} {s : Store}
theorem w_skip : rwp P n0 .skip Q e s = Q .normal e s := rfl
theorem w_ret : rwp P n0 .ret Q e s = Q .ret e s := rfl
theorem w_exit {id : Nat} : rwp P n0 (.exit id) Q e s = Q (.exit id) e s := rfl
theorem w_seq {a b : RQ} : rwp P n0 (.seq a b) Q e s = rwp P n0 a (thn (rwp P n0 b Q) Q) e s := rfl
theorem w_cond {c : Opd} {a b : RQ} : rwp P n0 (.cond c a b) Q e s = condR e c (rwp P n0 a Q e s) (rwp P n0 b Q e s) := rfl
theorem w_block {id : Nat} {b : RQ} : rwp P n0 (.block id b) Q e s = rwp P n0 b (blk id Q) e s := rfl
theorem w_reg {ops : List RP} : rwp P n0 (.reg ops) Q e s = seqR P ops (fun e s => Q .normal e s) (fun v e s => Q (.pan v) e s) e s := rfl
theorem w_drw {ops : List (Bool × RP)} {tail : List RP} : rwp P n0 (.drw ops tail) Q e s = dR P s.rows s.nx ops s.nx s.rows [] [] (fun e s => seqR P tail (fun e s => Q .normal e s) (fun v e s => Q (.pan v) e s) e s) e := rfl

/-- A loop. -/
theorem w_loop {b : RQ} (I : Env → Store → Prop) (μ : Env → Store → Nat) (h0 : ∃ e' s', Wk n0 e s e' s' ∧ I e' s')
    (h : ∀ e s, I e s → rwp P n0 b (thn (fun e' s' => ∃ e'' s'', Wk n0 e' s' e'' s'' ∧ I e'' s'' ∧ μ e'' s'' < μ e s) Q) e s) : rwp P n0 (.loop b) Q e s := ⟨I, μ, h0, h⟩

/-- A cond, as a goal for each side. -/
theorem condR_bool {c : Opd} {t : Bool} {A B : Prop} (h : sv e c = .bool t) (h0 : lv e c) (ha : t = true → A) (hb : t = false → B) : condR e c A B := by
  refine ⟨h0, ?_⟩
  rw [h]; exact ⟨ha, hb⟩
end

/-- A list of numbers, as a slice that nobody writes. -/
def ints (k : IntKind) (xs : List Int) : AV := .ros 1 (xs.map fun n => [.int k n])
theorem ibeq (a b : Int) : (a == b) = decide (a = b) := by rw [Bool.eq_iff_iff]; simp
theorem ibne (a b : Int) : (a != b) = !decide (a = b) := by simp [bne, ibeq]
end Go.Proofs.Ytffiicopifmmfaa.Ai
