/-
  What is said of abstract values otherwise: rows by other numbers, rows that are frozen. Plain facts, no condition.
-/
import Derived.Test.YtggmkfagcjdifaaDoorAiM
import Derived.Laws.StructEq
namespace Go.Proofs.YtggmkfagcjdifaaDoor.Ai
set_option linter.unusedSimpArgs false
set_option linter.unusedVariables false
set_option linter.unnecessarySimpa false
set_option linter.unusedSectionVars false
set_option linter.unusedVariables false

/-! ### States that are told otherwise: rows by other numbers, rows that nobody writes any more -/

/-- v' says no more than v: rho: a new number's old one; Z: the rows that are frozen. -/
inductive Cv (rows : Rows) (Z : Nat → Bool) (rho : Nat → Nat) : AV → AV → Prop
  | any (v : AV) : Cv rows Z rho v .any
  | bool (b : Bool) : Cv rows Z rho (.bool b) (.bool b)
  | int (k : IntKind) (n : Int) : Cv rows Z rho (.int k n) (.int k n)
  | str (s : ByteArray) : Cv rows Z rho (.str s) (.str s)
  | nilp : Cv rows Z rho .nilp .nilp
  | nils : Cv rows Z rho .nils .nils
  | nilsR (sz : Nat) : Cv rows Z rho .nils (.ros sz [])
  | nilf : Cv rows Z rho .nilf .nilf
  | nili : Cv rows Z rho .nili .nili
  | nilm : Cv rows Z rho .nilm .nilm
  | roe (sz : Nat) : Cv rows Z rho (.roe sz) (.roe sz)
  | agg (cs ds : List AV) (hl : ds.length = cs.length) (h : ∀ (j : Nat) (c d : AV), cs[j]? = some c → ds[j]? = some d → Cv rows Z rho c d) : Cv rows Z rho (.agg cs) (.agg ds)
  | tup (cs ds : List AV) (hl : ds.length = cs.length) (h : ∀ (j : Nat) (c d : AV), cs[j]? = some c → ds[j]? = some d → Cv rows Z rho c d) : Cv rows Z rho (.tup cs) (.tup ds)
  | ros (sz : Nat) (es fs : List (List AV)) (hl : fs.length = es.length) (hl2 : ∀ (i : Nat) (x y : List AV), es[i]? = some x → fs[i]? = some y → y.length = x.length)
      (h : ∀ (i : Nat) (x y : List AV) (j : Nat) (c d : AV), es[i]? = some x → fs[i]? = some y → x[j]? = some c → y[j]? = some d → Cv rows Z rho c d) : Cv rows Z rho (.ros sz es) (.ros sz fs)
  | rop (cs ds : List AV) (hl : ds.length = cs.length) (h : ∀ (j : Nat) (c d : AV), cs[j]? = some c → ds[j]? = some d → Cv rows Z rho c d) : Cv rows Z rho (.rop cs) (.rop ds)
  | sl (id id' sz i n : Nat) (k k' : Option Nat) (hid : id = rho id') (hk : k' = k ∨ k' = none) : Cv rows Z rho (.sl id sz i n k) (.sl id' sz i n k')
  | slf (id sz i n : Nat) (k : Option Nat) (r : Row) (fs : List (List AV)) (hz : Z id = true) (hr : look rows id = some r) (hsz : r.sz = sz) (hin : i + n ≤ r.es.length) (hl : fs.length = n)
      (hl2 : ∀ y ∈ fs, y.length = sz) (h : ∀ (q : Nat) (x y : List AV) (j : Nat) (c d : AV), r.es[i + q]? = some x → fs[q]? = some y → x[j]? = some c → y[j]? = some d → Cv rows Z rho c d) : Cv rows Z rho (.sl id sz i n k) (.ros sz fs)
  | sla (id i n : Nat) (k : Option Nat) (r : Row) (cs : List AV) (hz : Z id = true) (hr : look rows id = some r) (hin : i + n ≤ r.es.flatten.length) (hl : cs.length = n)
      (h : ∀ (q : Nat) (c d : AV), r.es.flatten[i + q]? = some c → cs[q]? = some d → Cv rows Z rho c d) : Cv rows Z rho (.sl id 1 i n k) (.ros 1 (cs.map fun c => [c]))
  | pt (id id' sz i o : Nat) (hid : id = rho id') : Cv rows Z rho (.pt id sz i o) (.pt id' sz i o)
  | ptf (id sz i o : Nat) (r : Row) (ds : List AV) (hz : Z id = true) (hr : look rows id = some r) (hsz : r.sz = sz) (hi : i < r.es.length) (hl : o + ds.length ≤ sz)
      (h : ∀ (j : Nat) (c d : AV), (r.es.getD i [])[o + j]? = some c → ds[j]? = some d → Cv rows Z rho c d) : Cv rows Z rho (.pt id sz i o) (.rop ds)
  | fn (f : Fn) (xs ys xs' ys' : List AV) (h1 : xs'.length = xs.length) (h2 : ys'.length = ys.length) (h3 : ∀ (j : Nat) (c d : AV), xs[j]? = some c → xs'[j]? = some d → Cv rows Z rho c d)
      (h4 : ∀ (j : Nat) (c d : AV), ys[j]? = some c → ys'[j]? = some d → Cv rows Z rho c d) : Cv rows Z rho (.fn f xs ys) (.fn f xs' ys')
  | ifc (t : TypeId) (v v' : AV) (h : Cv rows Z rho v v') : Cv rows Z rho (.ifc t v) (.ifc t v')
  | opt (t : Bool) (v v' : AV) (h : Cv rows Z rho v v') : Cv rows Z rho (.opt t v) (.opt t v')

def frozenIn (F : Nat → Prop) (p : Place) (rows : Rows) (Z : Nat → Bool) (b : Nat) : Prop := F b ∨ ∃ id r, Z id = true ∧ look rows id = some r ∧ (p id).1 = b

theorem two_get {cs ds : List AV} {us : Array Value} {R : AV → Value → Prop} {S : AV → AV → Prop} (hl : ds.length = cs.length) (h : ∀ j v, cs[j]? = some v → R v (us.getD j undef)) {j : Nat} {d : AV} (hd : ds[j]? = some d) : ∃ c, cs[j]? = some c ∧ R c (us.getD j undef) := by
  have : j < cs.length := by rw [← hl]; exact (List.getElem?_eq_some_iff.1 hd).1
  exact ⟨_, List.getElem?_eq_getElem this, h j _ (List.getElem?_eq_getElem this)⟩

theorem VR.cv {F : Nat → Prop} {w : World} {p : Place} {D D' : Nat → Prop} {rows : Rows} {Z : Nat → Bool} {rho : Nat → Nat} (hs : SRel F w p D rows) (hD : ∀ id', D (rho id') → D' id') {v v' : AV} (hc : Cv rows Z rho v v') :
    ∀ {u : Value}, VR F w p D v u → VR (frozenIn F p rows Z) w (p ∘ rho) D' v' u := by
  have inF : ∀ {b}, F b → frozenIn F p rows Z b := fun h => .inl h
  have pick : ∀ {cs ds : List AV} {j : Nat} {d : AV}, ds.length = cs.length → ds[j]? = some d → ∃ c, cs[j]? = some c := fun hl hd => by
    have := (List.getElem?_eq_some_iff.1 hd).1
    exact ⟨_, List.getElem?_eq_getElem (by omega)⟩
  induction hc with
  | any v => intro u h; exact .any u
  | bool b => intro u h; cases h; exact .bool b
  | int k n => intro u h; cases h; exact .int k n
  | str s => intro u h; cases h; exact .str s
  | nilp => intro u h; cases h; exact .nilp
  | nils => intro u h; cases h; exact .nils
  | nilsR sz => intro u h; cases h; exact .rosNil sz
  | nilf => intro u h; cases h; exact .nilf
  | nili => intro u h; cases h; exact .nili
  | nilm => intro u h; cases h; exact .nilm
  | roe sz => intro u h; cases h with | roe _ a cap => exact .roe sz a cap
  | agg cs ds hl hh ih =>
    intro u h
    cases h with | agg _ us h1 h2 =>
    refine .agg ds us (by rw [hl, h1]) fun j d hd => ?_
    obtain ⟨c, hc⟩ := pick hl hd
    exact ih j c d hc hd (h2 j c hc)
  | tup cs ds hl hh ih =>
    intro u h
    cases h with | tup _ us h1 h2 =>
    refine .tup ds us (by rw [hl, h1]) fun j d hd => ?_
    obtain ⟨c, hc⟩ := pick hl hd
    exact ih j c d hc hd (h2 j c hc)
  | ros sz es fs hl hl2 hh ih =>
    intro u h
    cases h with
    | rosNil => have : fs = [] := List.eq_nil_of_length_eq_zero (by simpa using hl)
                subst this; exact .rosNil sz
    | rosEmp _ a cap => have : fs = [] := List.eq_nil_of_length_eq_zero (by simpa using hl)
                        subst this; exact .rosEmp sz a cap
    | ros _ _ b o cap c t fz hb hF hcap hsz hr h =>
      rw [← hl]
      refine .ros sz fs b o cap c t fz hb (inF hF) (by omega) (fun y hy => ?_) (by rw [hl]; exact hr) fun i y j d hy hd => ?_
      · obtain ⟨i, hi, rfl⟩ := List.getElem_of_mem hy
        have hx : i < es.length := by omega
        rw [hl2 i _ _ (List.getElem?_eq_getElem hx) (List.getElem?_eq_getElem hi)]
        exact hsz _ (List.getElem_mem hx)
      · have hx : i < es.length := by rw [← hl]; exact (List.getElem?_eq_some_iff.1 hy).1
        have h9 := hl2 i _ _ (List.getElem?_eq_getElem hx) hy
        have hj : j < (es[i]).length := by rw [← h9]; exact (List.getElem?_eq_some_iff.1 hd).1
        exact ih i _ y j _ d (List.getElem?_eq_getElem hx) hy (List.getElem?_eq_getElem hj) hd (h i _ j _ (List.getElem?_eq_getElem hx) (List.getElem?_eq_getElem hj))
  | rop cs ds hl hh ih =>
    intro u h
    cases h with | rop _ b o c t fz hb hF hr h =>
    refine .rop ds b o c t fz hb (inF hF) (by rw [hl]; exact hr) fun j d hd => ?_
    obtain ⟨c', hc⟩ := pick hl hd
    exact ih j c' d hc hd (h j c' hc)
  | sl id id' sz i n k k' hid hk =>
    intro u h
    cases h with | sl _ _ _ _ _ a cap hd hn hkk ha =>
    subst hid
    exact .sl id' sz i n k' a cap (hD _ hd) hn (fun m hm => by rcases hk with rfl | rfl
                                                               · exact hkk m hm
                                                               · cases hm) ha
  | slf id sz i n k r fs hz hr hsz hin hl hl2 hh ih =>
    intro u h
    cases h with | sl _ _ _ _ _ a cap hd hn hkk ha =>
    rcases Nat.eq_zero_or_pos n with h0 | h0
    · subst h0
      have : fs = [] := List.eq_nil_of_length_eq_zero hl
      subst this
      cases a with
      | none =>
        rcases ha with rfl | ⟨_, _, _, h9, _⟩
        · exact .rosNil sz
        · cases h9
      | some a => exact .rosEmp sz a cap
    · rcases ha with ha | ⟨c, t, fz, rfl, hb, hsize⟩
      · omega
      · obtain ⟨_, _, ⟨⟨c2, t2, fz2, hb2, hf2, hr2, hv2⟩, hz2⟩⟩ := hs.row id r hr
        rw [hb] at hb2; cases hb2
        subst hsz
        rw [← hl]
        refine .ros r.sz fs _ _ cap c t fz hb (.inr ⟨id, r, hz, hr, rfl⟩) (by omega) hl2 ?_ fun q y j d hy hd => ?_
        · have : (i + n) * r.sz ≤ r.es.length * r.sz := Nat.mul_le_mul_right _ hin
          rw [hl]
          rw [Nat.add_mul] at this
          omega
        · have hq : q < n := by rw [← hl]; exact (List.getElem?_eq_some_iff.1 hy).1
          have hx : i + q < r.es.length := by omega
          have hxl := hz2 _ (List.getElem_mem hx)
          have hj : j < (r.es[i + q]).length := by
            rw [hxl, ← hl2 y (List.mem_of_getElem? hy)]; exact (List.getElem?_eq_some_iff.1 hd).1
          have := ih q _ y j _ d (List.getElem?_eq_getElem hx) hy (List.getElem?_eq_getElem hj) hd (hv2 (i + q) _ j _ (List.getElem?_eq_getElem hx) (List.getElem?_eq_getElem hj))
          rwa [show (p id).2 + (i + q) * r.sz + j = (p id).2 + i * r.sz + q * r.sz + j by rw [Nat.add_mul]; omega] at this
  | sla id i n k r cs hz hr hin hl hh ih =>
    intro u h
    cases h with | sl _ _ _ _ _ a cap hd hn hkk ha =>
    rcases Nat.eq_zero_or_pos n with h0 | h0
    · subst h0
      obtain rfl : cs = [] := List.eq_nil_of_length_eq_zero hl
      cases a with
      | none =>
        rcases ha with rfl | ⟨_, _, _, h9, _⟩
        · exact .rosNil 1
        · cases h9
      | some a => exact .rosEmp 1 a cap
    · rcases ha with ha | ⟨c, t, fz, rfl, hb, hsize⟩
      · omega
      · obtain ⟨_, _, hok⟩ := hs.row id r hr
        obtain ⟨c2, t2, fz2, hb2, hf2, hr2, hv2⟩ := flat_ok hok
        rw [hb] at hb2; cases hb2
        have hlm : (cs.map fun c => [c]).length = n := by simp [hl]
        have := VR.ros (F := frozenIn F p rows Z) (w := w) (p := p ∘ rho) (D := D') 1 (cs.map fun c => [c]) (p id).1 ((p id).2 + i * 1) cap c t fz hb (.inr ⟨id, r, hz, hr, rfl⟩) (by omega)
          (fun y hy => by obtain ⟨z, _, rfl⟩ := List.mem_map.1 hy; rfl) (by rw [hlm]; omega) (fun q y j d hy hd => by
            simp only [List.getElem?_map, Option.map_eq_some_iff] at hy
            obtain ⟨d0, hd0, rfl⟩ := hy
            cases j with
            | succ j => simp at hd
            | zero =>
              simp at hd; subst hd
              have hq : q < n := by rw [← hl]; exact (List.getElem?_eq_some_iff.1 hd0).1
              have hx : i + q < r.es.flatten.length := by omega
              have h5 := ih q _ d0 (List.getElem?_eq_getElem hx) hd0 (hv2 (i + q) _ (List.getElem?_eq_getElem hx))
              rwa [show (p id).2 + (i + q) = (p id).2 + i * 1 + q * 1 + 0 by omega] at h5)
        rwa [hlm] at this
  | pt id id' sz i o hid => intro u h; cases h with | pt _ _ _ _ hd => subst hid; exact .pt id' sz i o (hD _ hd)
  | ptf id sz i o r ds hz hr hsz hi hl hh ih =>
    intro u h
    cases h with | pt _ _ _ _ hd =>
    obtain ⟨_, _, ⟨⟨c, t, fz, hb, hf2, hr2, hv2⟩, hz2⟩⟩ := hs.row id r hr
    subst hsz
    have hx : r.es[i]? = some (r.es.getD i []) := by simp [List.getD, List.getElem?_eq_getElem hi]
    have hxl : (r.es.getD i []).length = r.sz := by
      simp only [List.getD, List.getElem?_eq_getElem hi, Option.getD_some]
      exact hz2 _ (List.getElem_mem hi)
    have hmul : (i + 1) * r.sz ≤ r.es.length * r.sz := Nat.mul_le_mul_right _ hi
    rw [Nat.add_mul, Nat.one_mul] at hmul
    refine .rop ds _ _ c t fz hb (.inr ⟨id, r, hz, hr, rfl⟩) (by omega) fun j d hd' => ?_
    have hj : j < ds.length := (List.getElem?_eq_some_iff.1 hd').1
    have hj2 : o + j < (r.es.getD i []).length := by omega
    have := ih j _ d (List.getElem?_eq_getElem hj2) hd' (hv2 i _ (o + j) _ hx (List.getElem?_eq_getElem hj2))
    rwa [show (p id).2 + i * r.sz + (o + j) = (p id).2 + i * r.sz + o + j by omega] at this
  | fn f xs ys xs' ys' h1 h2 h3 h4 ih3 ih4 =>
    intro u h
    cases h with | fn _ _ _ us vs g1 g2 g3 g4 =>
    refine .fn f xs' ys' us vs (by rw [h1, g1]) (by rw [h2, g2]) (fun j d hd => ?_) (fun j d hd => ?_)
    · obtain ⟨c, hc⟩ := pick h1 hd
      exact ih3 j c d hc hd (g3 j c hc)
    · obtain ⟨c, hc⟩ := pick h2 hd
      exact ih4 j c d hc hd (g4 j c hc)
  | ifc t v v' hv ih => intro u h; cases h with | ifc _ _ u0 h0 => exact .ifc t v' u0 (ih h0)
  | opt t v v' hv ih => intro u h; cases h with | opt _ _ _ h1 h2 => exact .opt t v' u (fun h => ih (h1 h)) h2

theorem SRel.frozen {F : Nat → Prop} {w : World} {p : Place} {D : Nat → Prop} {rows : Rows} {Z : Nat → Bool} (hs : SRel F w p D rows) : Old (frozenIn F p rows Z) w := by
  refine hs.old.to ?_ (fun _ h => .inl h) (fun _ _ => rfl) (fun b c t fz hb => ⟨c, t, fz, hb, rfl⟩)
  rintro b (hb | ⟨id, r, _, hl, rfl⟩)
  · exact hs.old b hb
  · obtain ⟨_, _, ⟨_, _, _, hb, _⟩, _⟩ := hs.row id r hl
    exact lt_of_heap hb

/-- Two lists, item by item. -/
def All2 {α : Type} (R : α → α → Prop) : List α → List α → Prop
  | [], [] => True
  | c :: cs, d :: ds => R c d ∧ All2 R cs ds
  | _, _ => False
theorem all2_len {α : Type} {R : α → α → Prop} : ∀ {cs ds : List α}, All2 R cs ds → ds.length = cs.length
  | [], [], _ => rfl
  | c :: cs, d :: ds, h => by simp [all2_len h.2]
  | [], _ :: _, h => h.elim
  | _ :: _, [], h => h.elim
theorem all2_get {α : Type} {R : α → α → Prop} : ∀ {cs ds : List α}, All2 R cs ds → ∀ (j : Nat) (c d : α), cs[j]? = some c → ds[j]? = some d → R c d
  | [], [], _, j, c, d, h, _ => by simp at h
  | c :: cs, d :: ds, h, j, x, y, hx, hy => by
    cases j with
    | zero => simp at hx hy; subst hx; subst hy; exact h.1
    | succ j => exact all2_get h.2 j x y (by simpa using hx) (by simpa using hy)
  | [], _ :: _, h, _, _, _, _, _ => h.elim
  | _ :: _, [], h, _, _, _, _, _ => h.elim
theorem all2_of {α : Type} {R : α → α → Prop} : ∀ {cs ds : List α}, ds.length = cs.length → (∀ (j : Nat) (c d : α), cs[j]? = some c → ds[j]? = some d → R c d) → All2 R cs ds
  | [], [], _, _ => trivial
  | c :: cs, d :: ds, hl, h => ⟨h 0 c d rfl rfl, all2_of (by simpa using hl) fun j x y hx hy => h (j + 1) x y (by simpa using hx) (by simpa using hy)⟩
  | [], _ :: _, hl, _ => by simp at hl
  | _ :: _, [], hl, _ => by simp at hl

section
variable {rows : Rows} {Z : Nat → Bool} {rho : Nat → Nat}
theorem cv_any {v : AV} : Cv rows Z rho v .any = True := eq_true (.any v)
theorem cv_bool {b c : Bool} : Cv rows Z rho (.bool b) (.bool c) = (b = c) := propext ⟨fun h => by cases h; rfl, fun h => h ▸ .bool b⟩
theorem cv_int {k l : IntKind} {n m : Int} : Cv rows Z rho (.int k n) (.int l m) = (k = l ∧ n = m) := propext ⟨fun h => by cases h; exact ⟨rfl, rfl⟩, fun ⟨h1, h2⟩ => h1 ▸ h2 ▸ .int k n⟩
theorem cv_str {b c : ByteArray} : Cv rows Z rho (.str b) (.str c) = (b = c) := propext ⟨fun h => by cases h; rfl, fun h => h ▸ .str b⟩
theorem cv_nilp : Cv rows Z rho .nilp .nilp = True := eq_true .nilp
theorem cv_nils : Cv rows Z rho .nils .nils = True := eq_true .nils
theorem cv_nilsR {sz : Nat} {es : List (List AV)} : Cv rows Z rho .nils (.ros sz es) = (es = []) := propext ⟨fun h => by cases h; rfl, fun h => h ▸ .nilsR sz⟩
theorem cv_nilf : Cv rows Z rho .nilf .nilf = True := eq_true .nilf
theorem cv_nili : Cv rows Z rho .nili .nili = True := eq_true .nili
theorem cv_nilm : Cv rows Z rho .nilm .nilm = True := eq_true .nilm
theorem cv_agg {cs ds : List AV} : Cv rows Z rho (.agg cs) (.agg ds) = All2 (Cv rows Z rho) cs ds := propext ⟨fun h => by cases h with | agg _ _ hl h => exact all2_of hl h, fun h => .agg cs ds (all2_len h) (all2_get h)⟩
theorem cv_tup {cs ds : List AV} : Cv rows Z rho (.tup cs) (.tup ds) = All2 (Cv rows Z rho) cs ds := propext ⟨fun h => by cases h with | tup _ _ hl h => exact all2_of hl h, fun h => .tup cs ds (all2_len h) (all2_get h)⟩
theorem cv_rop {cs ds : List AV} : Cv rows Z rho (.rop cs) (.rop ds) = All2 (Cv rows Z rho) cs ds := propext ⟨fun h => by cases h with | rop _ _ hl h => exact all2_of hl h, fun h => .rop cs ds (all2_len h) (all2_get h)⟩
theorem cv_ros {sz q : Nat} {es fs : List (List AV)} : Cv rows Z rho (.ros sz es) (.ros q fs) = (sz = q ∧ All2 (All2 (Cv rows Z rho)) es fs) := propext
  ⟨fun h => by cases h with | ros _ _ _ hl hl2 h => exact ⟨rfl, all2_of hl fun i x y hx hy => all2_of (hl2 i x y hx hy) fun j c d hc hd => h i x y j c d hx hy hc hd⟩,
   fun ⟨h1, h2⟩ => h1 ▸ .ros sz es fs (all2_len h2) (fun i x y hx hy => all2_len (all2_get h2 i x y hx hy)) (fun i x y j c d hx hy hc hd => all2_get (all2_get h2 i x y hx hy) j c d hc hd)⟩
theorem cv_sl {id id' sz sz' i i' n n' : Nat} {k k' : Option Nat} : Cv rows Z rho (.sl id sz i n k) (.sl id' sz' i' n' k') = (id = rho id' ∧ sz = sz' ∧ i = i' ∧ n = n' ∧ (k' = k ∨ k' = none)) := propext
  ⟨fun h => by cases h with | sl _ _ _ _ _ _ _ h1 h2 => exact ⟨h1, rfl, rfl, rfl, h2⟩, fun ⟨h1, h2, h3, h4, h5⟩ => by subst h2; subst h3; subst h4; exact .sl id id' sz i n k k' h1 h5⟩
theorem cv_pt {id id' sz sz' i i' o o' : Nat} : Cv rows Z rho (.pt id sz i o) (.pt id' sz' i' o') = (id = rho id' ∧ sz = sz' ∧ i = i' ∧ o = o') := propext
  ⟨fun h => by cases h with | pt _ _ _ _ _ h1 => exact ⟨h1, rfl, rfl, rfl⟩, fun ⟨h1, h2, h3, h4⟩ => by subst h2; subst h3; subst h4; exact .pt id id' sz i o h1⟩
theorem cv_fn {f f' : Fn} {xs ys xs' ys' : List AV} : Cv rows Z rho (.fn f xs ys) (.fn f' xs' ys') = (f = f' ∧ All2 (Cv rows Z rho) xs xs' ∧ All2 (Cv rows Z rho) ys ys') := propext
  ⟨fun h => by cases h with | fn _ _ _ _ _ h1 h2 h3 h4 => exact ⟨rfl, all2_of h1 h3, all2_of h2 h4⟩, fun ⟨h1, h2, h3⟩ => h1 ▸ .fn f xs ys xs' ys' (all2_len h2) (all2_len h3) (all2_get h2) (all2_get h3)⟩
theorem cv_ifc {t t' : TypeId} {v v' : AV} : Cv rows Z rho (.ifc t v) (.ifc t' v') = (t = t' ∧ Cv rows Z rho v v') := propext ⟨fun h => by cases h with | ifc _ _ _ h => exact ⟨rfl, h⟩, fun ⟨h1, h2⟩ => h1 ▸ .ifc t v v' h2⟩
theorem cv_opt {t t' : Bool} {v v' : AV} : Cv rows Z rho (.opt t v) (.opt t' v') = (t = t' ∧ Cv rows Z rho v v') := propext ⟨fun h => by cases h with | opt _ _ _ h => exact ⟨rfl, h⟩, fun ⟨h1, h2⟩ => h1 ▸ .opt t v v' h2⟩
/-- A row that nobody writes any more. -/
theorem cv_frz {id sz q i n : Nat} {k : Option Nat} {fs : List (List AV)} {r : Row} (hr : look rows id = some r) (hz : Z id = true) (h1 : r.sz = sz) (h2 : q = sz) (h3 : i + n ≤ r.es.length) (hw : ∀ y ∈ fs, y.length = sz) (h4 : All2 (All2 (Cv rows Z rho)) ((r.es.drop i).take n) fs) :
    Cv rows Z rho (.sl id sz i n k) (.ros q fs) := by
  subst h2
  have hl := all2_len h4
  have hlen : ((r.es.drop i).take n).length = n := by simp; omega
  refine .slf id _ i n k r fs hz hr h1 h3 (by omega) hw fun qq x y j c d hx hy hc hd => ?_
  have hq : qq < n := by have := (List.getElem?_eq_some_iff.1 hy).1; omega
  have hx' : ((r.es.drop i).take n)[qq]? = some x := by rw [List.getElem?_take, if_pos hq, List.getElem?_drop]; exact hx
  exact all2_get (all2_get h4 qq x y hx' hy) j c d hc hd
theorem all2_cons {α : Type} {R : α → α → Prop} {c d : α} {cs ds : List α} : All2 R (c :: cs) (d :: ds) = (R c d ∧ All2 R cs ds) := rfl
theorem all2_nil {α : Type} {R : α → α → Prop} : All2 R ([] : List α) [] = True := rfl
end

section
variable {rows : Rows} {Z : Nat → Bool} {rho : Nat → Nat}
/-- A part of an array in a variable that nobody writes any more. -/
theorem cv_slA {id i n : Nat} {k : Option Nat} {cs : List AV} {r : Row} (hr : look rows id = some r) (hz : Z id = true) (hin : i + n ≤ r.es.flatten.length) (h4 : All2 (Cv rows Z rho) ((r.es.flatten.drop i).take n) cs) :
    Cv rows Z rho (.sl id 1 i n k) (.ros 1 (cs.map fun c => [c])) := by
  have hl := all2_len h4
  have hlen : ((r.es.flatten.drop i).take n).length = n := by rw [List.length_take, List.length_drop]; omega
  refine .sla id i n k r cs hz hr hin (by omega) fun q c d hc hd => ?_
  have hq : q < n := by have := (List.getElem?_eq_some_iff.1 hd).1; omega
  exact all2_get h4 q c d (by rw [List.getElem?_take, if_pos hq, List.getElem?_drop]; exact hc) hd
end

section
variable {F : Nat → Prop} {w : World} {p : Place} {D : Nat → Prop} {e : Env} {rows : Rows} {P : Program} {k : Nat}
/-- Values that speak of no row. -/
inductive Cl : AV → Prop
  | any : Cl .any
  | bool (b : Bool) : Cl (.bool b)
  | int (k : IntKind) (n : Int) : Cl (.int k n)
  | str (s : ByteArray) : Cl (.str s)
  | nilp : Cl .nilp
  | nils : Cl .nils
  | nilf : Cl .nilf
  | nili : Cl .nili
  | nilm : Cl .nilm
  | agg (cs : List AV) (h : ∀ c ∈ cs, Cl c) : Cl (.agg cs)
  | tup (cs : List AV) (h : ∀ c ∈ cs, Cl c) : Cl (.tup cs)
  | ros (sz : Nat) (es : List (List AV)) (h : ∀ x ∈ es, ∀ c ∈ x, Cl c) : Cl (.ros sz es)
  | rop (cs : List AV) (h : ∀ c ∈ cs, Cl c) : Cl (.rop cs)
  | fn (f : Fn) (xs ys : List AV) (h1 : ∀ c ∈ xs, Cl c) (h2 : ∀ c ∈ ys, Cl c) : Cl (.fn f xs ys)
  | ifc (t : TypeId) (v : AV) (h : Cl v) : Cl (.ifc t v)
  | roe (sz : Nat) : Cl (.roe sz)
  | opt (t : Bool) (v : AV) (h : Cl v) : Cl (.opt t v)

theorem VR.closed {p' : Place} {D' : Nat → Prop} {v : AV} {u : Value} (h : VR F w p D v u) (hc : Cl v) : VR F w p' D' v u := by
  induction hc generalizing u with
  | any => exact .any _
  | bool b => cases h; exact .bool b
  | int k n => cases h; exact .int k n
  | str s => cases h; exact .str s
  | nilp => cases h; exact .nilp
  | nils => cases h; exact .nils
  | nilf => cases h; exact .nilf
  | nili => cases h; exact .nili
  | nilm => cases h; exact .nilm
  | agg cs hc ih => cases h with | agg _ us hs h => exact .agg cs us hs fun j v hj => ih v (List.mem_of_getElem? hj) (h j v hj)
  | tup cs hc ih => cases h with | tup _ us hs h => exact .tup cs us hs fun j v hj => ih v (List.mem_of_getElem? hj) (h j v hj)
  | ros sz es hc ih =>
    cases h with
    | rosNil => exact .rosNil sz
    | rosEmp _ a cap => exact .rosEmp sz a cap
    | ros _ _ b o cap c t fz hb hF hcap hsz hr h =>
      exact .ros sz es b o cap c t fz hb hF hcap hsz hr fun i x j v hx hj => ih x (List.mem_of_getElem? hx) v (List.mem_of_getElem? hj) (h i x j v hx hj)
  | rop cs hc ih => cases h with | rop _ b o c t fz hb hF hr h => exact .rop cs b o c t fz hb hF hr fun j v hj => ih v (List.mem_of_getElem? hj) (h j v hj)
  | fn f xs ys h1 h2 ih1 ih2 =>
    cases h with | fn _ _ _ us vs g1 g2 g3 g4 =>
    exact .fn f xs ys us vs g1 g2 (fun j v hj => ih1 v (List.mem_of_getElem? hj) (g3 j v hj)) (fun j v hj => ih2 v (List.mem_of_getElem? hj) (g4 j v hj))
  | ifc t v hc ih => cases h with | ifc _ _ u h => exact .ifc t v u (ih h)
  | roe sz => cases h with | roe _ a cap => exact .roe sz a cap
  | opt t v hc ih => cases h with | opt _ _ _ h1 h2 => exact .opt t v _ (fun h => ih (h1 h)) h2
end

/-- Values that lean on no frozen memory. -/
inductive Fl : AV → Prop
  | any : Fl .any
  | bool (b : Bool) : Fl (.bool b)
  | int (k : IntKind) (n : Int) : Fl (.int k n)
  | str (s : ByteArray) : Fl (.str s)
  | nilp : Fl .nilp
  | nils : Fl .nils
  | nilf : Fl .nilf
  | nili : Fl .nili
  | nilm : Fl .nilm
  | agg (cs : List AV) (h : ∀ c ∈ cs, Fl c) : Fl (.agg cs)
  | tup (cs : List AV) (h : ∀ c ∈ cs, Fl c) : Fl (.tup cs)
  | sl (id sz i n : Nat) (c : Option Nat) : Fl (.sl id sz i n c)
  | pt (id sz i o : Nat) : Fl (.pt id sz i o)
  | ifc (t : TypeId) (v : AV) (h : Fl v) : Fl (.ifc t v)
  | roe (sz : Nat) : Fl (.roe sz)
theorem VR.flat {F F' : Nat → Prop} {w : World} {p : Place} {D : Nat → Prop} {v : AV} {u : Value} (h : VR F w p D v u) (hf : Fl v) : VR F' w p D v u := by
  induction hf generalizing u with
  | any => exact .any _
  | bool b => cases h; exact .bool b
  | int kk n => cases h; exact .int kk n
  | str s => cases h; exact .str s
  | nilp => cases h; exact .nilp
  | nils => cases h; exact .nils
  | nilf => cases h; exact .nilf
  | nili => cases h; exact .nili
  | nilm => cases h; exact .nilm
  | agg cs hc ih => cases h with | agg _ us hs h => exact .agg cs us hs fun j v hj => ih v (List.mem_of_getElem? hj) (h j v hj)
  | tup cs hc ih => cases h with | tup _ us hs h => exact .tup cs us hs fun j v hj => ih v (List.mem_of_getElem? hj) (h j v hj)
  | sl id sz i n c => cases h with | sl _ _ _ _ _ a cap hid hn hk ha => exact .sl id sz i n c a cap hid hn hk ha
  | pt id sz i o => cases h with | pt _ _ _ _ hid => exact .pt id sz i o hid
  | ifc t v hc ih => cases h with | ifc _ _ u h => exact .ifc t v u (ih h)
  | roe sz => cases h with | roe _ a cap => exact .roe sz a cap
theorem fl_any : Fl .any = True := eq_true .any
theorem fl_bool {b : Bool} : Fl (.bool b) = True := eq_true (.bool b)
theorem fl_int {kk : IntKind} {n : Int} : Fl (.int kk n) = True := eq_true (.int kk n)
theorem fl_str {s : ByteArray} : Fl (.str s) = True := eq_true (.str s)
theorem fl_nilp : Fl .nilp = True := eq_true .nilp
theorem fl_nils : Fl .nils = True := eq_true .nils
theorem fl_nilf : Fl .nilf = True := eq_true .nilf
theorem fl_nili : Fl .nili = True := eq_true .nili
theorem fl_nilm : Fl .nilm = True := eq_true .nilm
theorem fl_roe {sz : Nat} : Fl (.roe sz) = True := eq_true (.roe sz)
theorem fl_sl {id sz i n : Nat} {c : Option Nat} : Fl (.sl id sz i n c) = True := eq_true (.sl id sz i n c)
theorem fl_pt {id sz i o : Nat} : Fl (.pt id sz i o) = True := eq_true (.pt id sz i o)
theorem fl_agg {cs : List AV} : Fl (.agg cs) = ∀ c ∈ cs, Fl c := propext ⟨fun h => by cases h; assumption, .agg cs⟩
theorem fl_tup {cs : List AV} : Fl (.tup cs) = ∀ c ∈ cs, Fl c := propext ⟨fun h => by cases h; assumption, .tup cs⟩
theorem fl_ifc {t : TypeId} {v : AV} : Fl (.ifc t v) = Fl v := propext ⟨fun h => by cases h; assumption, .ifc t v⟩

def frzArg (rows : Rows) (x x' : AV) : Prop := Cv rows (fun _ => true) (fun i => i) x x' ∧ Cl x'
def flRows : Rows → Prop
  | [] => True
  | (_, r) :: l => (∀ x ∈ r.es, ∀ c ∈ x, Fl c) ∧ flRows l
theorem flRows_look {l : Rows} (h : flRows l) {id : Nat} {r : Row} (hl : look l id = some r) : ∀ x ∈ r.es, ∀ c ∈ x, Fl c := by
  induction l with
  | nil => cases hl
  | cons x l ih =>
    obtain ⟨k, q⟩ := x
    rw [look_cons] at hl
    split at hl
    · cases hl; exact h.1
    · exact ih h.2 hl

end Go.Proofs.YtggmkfagcjdifaaDoor.Ai
namespace Go.Proofs.YtggmkfagcjdifaaDoor.Ai
set_option linter.unusedSimpArgs false
set_option linter.unusedVariables false
set_option linter.unnecessarySimpa false
set_option linter.unusedSectionVars false
set_option linter.unusedVariables false

theorem wi_wide : WI none = Fence.wide := rfl

/-- An operation's run, with the call that it makes. -/
inductive Does (P : Program) (o : Oper) (ρ : Operand → Value) (w : World) (R : Value → World → Prop) : Prop
  | value (u : Value) (w' : World) (h : (execOp ρ o).run P w = .ok (.value u) w') (r : R u w')
  | skip (w' : World) (h : (execOp ρ o).run P w = .ok .skip w') (r : R undef w')
  | enter (f : FuncId) (args : Array Value) (h : (execOp ρ o).run P w = .ok (.enter f args) w) (r : Calls P f args w fun e w' => ∃ u, e = .returned u ∧ R u w')

theorem Does.mono {P : Program} {o : Oper} {ρ : Operand → Value} {w : World} {R R' : Value → World → Prop} (h : Does P o ρ w R) (hr : ∀ u w', R u w' → R' u w') : Does P o ρ w R' := by
  cases h with
  | value u w' h r => exact .value u w' h (hr _ _ r)
  | skip w' h r => exact .skip w' h (hr _ _ r)
  | enter f args h r => exact .enter f args h (Calls.mono r fun e w' ⟨u, h1, h2⟩ => ⟨u, h1, hr _ _ h2⟩)

theorem Does.wpIn {P : Program} {o : Oper} {a : Act} {w : World} {R : Value → World → Prop} {next : Act → World → Prop} {Q : Exit → Act → World → Prop} (hd : ∀ c, o.op ≠ .defer c) (h : Does P o a.eval w R)
    (hn : ∀ u w', R u w' → next (a.put o.dst u) w') : o.wpIn (WI none) 0 P a w next Q := by
  refine And.intro (fun f _ => trivial) ?_
  show o.uponIn (WI none) 0 P a next Q ((execOp a.eval o).run P w)
  cases h with
  | value u w' h r => rw [h]; exact hn _ _ r
  | skip w' h r => rw [h]; exact hn _ _ r
  | enter f args h r =>
    rw [h]
    refine ⟨fun h => (by cases h), ?_⟩
    rw [wi_wide]
    refine callsIn_wide.2 (Calls.mono r ?_)
    rintro e w' ⟨u, rfl, hr⟩
    exact hn _ _ hr

/-- An operation that leaves the old memory as it was. -/
structure PR (F : Nat → Prop) (w : World) (p : Place) (D : Nat → Prop) (k : Nat) (F' : Nat → Prop) (w' : World) (u : Value) (row : Option Row) (v : AV) : Prop where
  grow : Grow w w'
  inF : ∀ b, F b → F' b
  newF : ∀ b, F' b → F b ∨ (w.heap.size ≤ b ∧ b < w'.heap.size)
  nrow : ∀ r, row = some r → ¬ F' w.heap.size ∧ RowOK F' w' (upd p k (w.heap.size, 0)) (fun i => D i ∨ i = k) r w.heap.size 0 ∧ w.heap.size < w'.heap.size
  val : VR F' w' (upd p k (w.heap.size, 0)) (fun i => D i ∨ i = k) v u

section
variable {F : Nat → Prop} {w : World} {p : Place} {D : Nat → Prop} {e : Env} {rows : Rows} {P : Program} {k : Nat}

theorem PRes.pr {w' : World} {u : Value} {row : Option Row} {v : AV} (hs : SRel F w p D rows) (h : PRes F w p D k w' u row v) : PR F w p D k F w' u row v :=
  ⟨h.grow, fun _ h => h, fun _ h => .inl h, fun r hr => ⟨fun hF => Nat.lt_irrefl _ (hs.old _ hF), h.nrow r hr⟩,
    h.val.mono (fun _ h => h) (fun _ _ => rfl) (fun b c t fz hb => ⟨c, t, fz, hb, rfl⟩) (fun _ _ => rfl) (fun i hi => hi.imp (fun h => h) (fun h => h.1))⟩

/-- A row that was just made, as an immutable slice. -/
theorem PRes.imm {w' : World} {u : Value} {sz n : Nat} {es : List (List AV)} (hs : SRel F w p D rows) (hn : 0 < n) (he : es.length = n) (h : PRes F w p D k w' u (some ⟨sz, es⟩) (.sl k sz 0 n (some n))) :
    PR F w p D k (fun b => F b ∨ b = w.heap.size) w' u none (.ros sz es) := by
  obtain ⟨h1, h2⟩ := h.nrow _ rfl
  refine ⟨h.grow, fun _ h => .inl h, fun b hb => hb.imp (fun h => h) (fun hb => ⟨by omega, by omega⟩), fun r hr => (by cases hr), ?_⟩
  obtain ⟨c, t, fz, hb, hfz, hr, hv⟩ := h1.ex
  have hval := h.val
  generalize hu : u = u' at hval
  cases hval with
  | sl id q i n' kc a cap hid hnc hkc ha =>
    obtain rfl := hkc n rfl
    rcases ha with ha | ⟨c', t', fz', rfl, _, _⟩
    · omega
    · have hkk : (upd p k (w.heap.size, 0)) k = (w.heap.size, 0) := by simp [upd]
      rw [hkk]
      simp only [Nat.zero_mul, Nat.add_zero]
      subst he
      refine .ros sz es _ _ _ c t fz hb (.inr rfl) (Nat.le_refl _) (fun x hx => h1.sz x hx) hr fun i x j v hx hj => ?_
      exact (hv i x j v hx hj).mono (fun _ h => .inl h) (fun _ _ => rfl) (fun b c t fz hb => ⟨c, t, fz, hb, rfl⟩) (fun _ _ => rfl) (fun _ h => h)

/-- What stands in no row stands whatever the places are. -/
theorem VR.free {p' : Place} {D' : Nat → Prop} {v : AV} {u : Value} (h : VR F w p (fun _ => False) v u) : VR F w p' D' v u :=
  h.mono (fun _ h => h) (fun _ _ => rfl) (fun b c t fz hb => ⟨c, t, fz, hb, rfl⟩) (fun _ h => h.elim) (fun _ h => h.elim)

def CArgs (F : Nat → Prop) (w : World) (xs : List AV) (args : Array Value) : Prop :=
  args.size = xs.length ∧ ∀ j x, xs[j]? = some x → VR F w (fun _ => (0, 0)) (fun _ => False) x (args.getD j undef)

/-- A function that gives a value of what it is given, and leaves the old memory as it was. -/
structure PCall (P : Program) (f : FuncId) (xs : List AV) (v : AV) : Prop where
  enter : ∀ args w, (callFunc f args).run P w = .ok (.enter f args) w
  run : ∀ F w args, Old F w → CArgs F w xs args →
    Calls P f args w fun e w' => ∃ u, e = .returned u ∧ ∃ F', Grow w w' ∧ (∀ b, F b → F' b) ∧ (∀ b, F' b → F b ∨ (w.heap.size ≤ b ∧ b < w'.heap.size)) ∧ VR F' w' (fun _ => (0, 0)) (fun _ => False) v u

/-- What is left by an operation that makes rows, and leaves the old memory as it was. -/
structure PRm (F : Nat → Prop) (w : World) (p : Place) (D : Nat → Prop) (k m : Nat) (F' : Nat → Prop) (w' : World) (u : Value) (new : Rows) (v : AV) (p' : Place) : Prop where
  grow : Grow w w'
  inF : ∀ b, F b → F' b
  newF : ∀ b, F' b → F b ∨ (w.heap.size ≤ b ∧ b < w'.heap.size)
  keep : ∀ i, ¬ (k ≤ i ∧ i < k + m) → p' i = p i
  nrow : ∀ id r, look new id = some r → (k ≤ id ∧ id < k + m) ∧ w.heap.size ≤ (p' id).1 ∧ (p' id).1 < w'.heap.size ∧ ¬ F' (p' id).1 ∧ RowOK F' w' p' (fun i => D i ∨ (k ≤ i ∧ i < k + m)) r (p' id).1 (p' id).2
  apart : ∀ id id' r r', look new id = some r → look new id' = some r' → id ≠ id' → (p' id).1 ≠ (p' id').1
  val : VR F' w' p' (fun i => D i ∨ (k ≤ i ∧ i < k + m)) v u

theorem vr_D {F : Nat → Prop} {w : World} {p : Place} {D D' : Nat → Prop} {v : AV} {u : Value} (h : VR F w p D v u) (hD : ∀ i, D i → D' i) : VR F w p D' v u :=
  h.mono (fun _ h => h) (fun _ _ => rfl) (fun b c t fz hb => ⟨c, t, fz, hb, rfl⟩) (fun _ _ => rfl) hD
theorem RowOK.toD {F : Nat → Prop} {w : World} {p : Place} {D D' : Nat → Prop} {r : Row} {b o : Nat} (h : RowOK F w p D r b o) (hD : ∀ i, D i → D' i) : RowOK F w p D' r b o := by
  obtain ⟨⟨c, t, fz, hb, hf, hr, hv⟩, hz⟩ := h
  exact ⟨⟨c, t, fz, hb, hf, hr, fun i x j v hx hj => vr_D (hv i x j v hx hj) hD⟩, hz⟩

theorem PR.m {F' : Nat → Prop} {w' : World} {u : Value} {row : Option Row} {v : AV} (h : PR F w p D k F' w' u row v) : PRm F w p D k 1 F' w' u (push [] k row) v (upd p k (w.heap.size, 0)) := by
  have hD : ∀ i, (D i ∨ i = k) → D i ∨ (k ≤ i ∧ i < k + 1) := fun i hi => hi.imp id (fun e => by omega)
  have hkk : (upd p k (w.heap.size, 0)) k = (w.heap.size, 0) := by simp [upd]
  refine ⟨h.grow, h.inF, h.newF, fun i hi => by simp only [upd]; rw [if_neg (by omega)], fun id r hl => ?_, fun id id' r r' hl hl' hne => ?_, vr_D h.val hD⟩
  · cases row with
    | none => simp [push, look] at hl
    | some r1 =>
      simp only [push, look_cons] at hl
      split at hl
      · rename_i hid; subst hid; cases hl
        obtain ⟨h1, h2, h3⟩ := h.nrow _ rfl
        rw [hkk]
        exact ⟨⟨Nat.le_refl _, Nat.lt_succ_self _⟩, Nat.le_refl _, h3, h1, h2.toD hD⟩
      · simp [look] at hl
  · cases row with
    | none => simp [push, look] at hl
    | some r1 =>
      simp only [push, look_cons] at hl hl'
      split at hl <;> split at hl' <;> first | omega | simp [look] at hl hl'

/-! ### Rows by other numbers -/
mutual
def AV.sh (k : Nat) : AV → AV
  | .agg cs => .agg (shL k cs)
  | .tup cs => .tup (shL k cs)
  | .ros sz es => .ros sz (shLL k es)
  | .rop cs => .rop (shL k cs)
  | .sl id sz i n c => .sl (id + k) sz i n c
  | .pt id sz i o => .pt (id + k) sz i o
  | .fn f xs ys => .fn f (shL k xs) (shL k ys)
  | .ifc t v => .ifc t (v.sh k)
  | .opt t v => .opt t (v.sh k)
  | .any => .any
  | .bool b => .bool b
  | .int i n => .int i n
  | .str s => .str s
  | .nilp => .nilp
  | .nils => .nils
  | .nilf => .nilf
  | .nili => .nili
  | .nilm => .nilm
  | .roe sz => .roe sz
def shL (k : Nat) : List AV → List AV
  | [] => []
  | x :: l => x.sh k :: shL k l
def shLL (k : Nat) : List (List AV) → List (List AV)
  | [] => []
  | x :: l => shL k x :: shLL k l
end
def shR (k : Nat) : Rows → Rows
  | [] => []
  | (id, r) :: l => (id + k, ⟨r.sz, shLL k r.es⟩) :: shR k l

theorem shL_map (k : Nat) : ∀ l, shL k l = l.map (AV.sh k)
  | [] => rfl
  | x :: l => by simp [shL, shL_map k l]
theorem shLL_map (k : Nat) : ∀ l, shLL k l = l.map (List.map (AV.sh k))
  | [] => rfl
  | x :: l => by simp [shLL, shLL_map k l, shL_map]
theorem look_shR (k : Nat) : ∀ (l : Rows) (id : Nat) (r : Row), look (shR k l) id = some r → k ≤ id ∧ ∃ r0, look l (id - k) = some r0 ∧ r = ⟨r0.sz, shLL k r0.es⟩
  | [], id, r, h => by simp [shR, look] at h
  | (i, q) :: l, id, r, h => by
    simp only [shR, look_cons] at h ⊢
    split at h
    · rename_i hid; subst hid; cases h
      exact ⟨Nat.le_add_left _ _, q, by simp, rfl⟩
    · rename_i hid
      obtain ⟨h1, r0, h2, h3⟩ := look_shR k l id r h
      exact ⟨h1, r0, by rw [if_neg (by omega)]; exact h2, h3⟩

theorem VR.sh {p2 : Place} {D2 : Nat → Prop} {s : Nat} (hp : ∀ i, D i → p2 (i + s) = p i) (hD : ∀ i, D i → D2 (i + s)) {v : AV} {u : Value} (h : VR F w p D v u) : VR F w p2 D2 (v.sh s) u := by
  have get : ∀ {cs : List AV} {j : Nat} {v : AV}, (cs.map (AV.sh s))[j]? = some v → ∃ v0, cs[j]? = some v0 ∧ v = v0.sh s := fun h => by
    simp only [List.getElem?_map, Option.map_eq_some_iff] at h
    obtain ⟨v0, h1, h2⟩ := h
    exact ⟨v0, h1, h2.symm⟩
  induction h with
  | any u => exact .any u
  | bool b => exact .bool b
  | int k n => exact .int k n
  | str s => exact .str s
  | nilp => exact .nilp
  | nils => exact .nils
  | nilf => exact .nilf
  | nili => exact .nili
  | agg cs us hs h ih => simp only [AV.sh, shL_map]; exact .agg _ us (by simpa using hs) fun j v hj => by obtain ⟨v0, h1, rfl⟩ := get hj; exact ih j v0 h1
  | tup cs us hs h ih => simp only [AV.sh, shL_map]; exact .tup _ us (by simpa using hs) fun j v hj => by obtain ⟨v0, h1, rfl⟩ := get hj; exact ih j v0 h1
  | rosNil sz => exact .rosNil sz
  | rosEmp sz a cap => exact .rosEmp sz a cap
  | ros sz es b o cap c t fz hb hFb hcap hsz hr h ih =>
    simp only [AV.sh, shLL_map]
    have := VR.ros (F := F) (w := w) (p := p2) (D := D2) sz (es.map (List.map (AV.sh s))) b o cap c t fz hb hFb (by simpa using hcap) (fun x hx => by obtain ⟨y, hy, rfl⟩ := List.mem_map.1 hx; simpa using hsz y hy) (by simpa using hr)
      (fun i x j v hx hj => by
        simp only [List.getElem?_map, Option.map_eq_some_iff] at hx
        obtain ⟨x0, hx0, rfl⟩ := hx
        obtain ⟨v0, h1, rfl⟩ := get hj
        exact ih i x0 j v0 hx0 h1)
    simpa using this
  | rop cs b o c t fz hb hFb hr h ih => simp only [AV.sh, shL_map]; exact .rop _ b o c t fz hb hFb (by simpa using hr) fun j v hj => by obtain ⟨v0, h1, rfl⟩ := get hj; exact ih j v0 h1
  | sl id sz i n k a cap hid hn hk ha =>
    simp only [AV.sh]
    refine .sl _ sz i n k a cap (hD _ hid) hn hk ?_
    rw [hp _ hid]; exact ha
  | pt id sz i off hid => simp only [AV.sh]; rw [← hp _ hid]; exact .pt _ sz i off (hD _ hid)
  | fn f xs ys us vs h1 h2 h3 h4 ih3 ih4 =>
    simp only [AV.sh, shL_map]
    exact .fn f _ _ us vs (by simpa using h1) (by simpa using h2) (fun j v hj => by obtain ⟨v0, h1, rfl⟩ := get hj; exact ih3 j v0 h1) (fun j v hj => by obtain ⟨v0, h1, rfl⟩ := get hj; exact ih4 j v0 h1)
  | ifc t v u h ih => exact .ifc t _ u ih
  | nilm => exact .nilm
  | roe sz a cap => exact .roe sz a cap
  | opt t v u h1 h2 ih => exact .opt t _ u ih h2

theorem RowOK.sh {p2 : Place} {D2 : Nat → Prop} {s : Nat} (hp : ∀ i, D i → p2 (i + s) = p i) (hD : ∀ i, D i → D2 (i + s)) {r : Row} {b o : Nat} (h : RowOK F w p D r b o) : RowOK F w p2 D2 ⟨r.sz, shLL s r.es⟩ b o := by
  obtain ⟨⟨c, t, fz, hb, hf, hr, hv⟩, hz⟩ := h
  refine ⟨⟨c, t, fz, hb, hf, by simpa [shLL_map] using hr, fun i x j v hx hj => ?_⟩, fun x hx => ?_⟩
  · simp only [shLL_map, List.getElem?_map, Option.map_eq_some_iff] at hx
    obtain ⟨x0, hx0, rfl⟩ := hx
    simp only [List.getElem?_map, Option.map_eq_some_iff] at hj
    obtain ⟨v0, hj0, rfl⟩ := hj
    exact (hv i x0 j v0 hx0 hj0).sh hp hD
  · simp only [shLL_map, List.mem_map] at hx
    obtain ⟨y, hy, rfl⟩ := hx
    simpa using hz y hy

/-- A function that gives a value, and rows that are new: their numbers from k on. -/
structure RCall (P : Program) (f : FuncId) (xs : List AV) (k m : Nat) (new : Rows) (v : AV) : Prop where
  enter : ∀ args w, (callFunc f args).run P w = .ok (.enter f args) w
  rng : ∀ id r, look new id = some r → k ≤ id ∧ id < k + m
  run : ∀ F w args, Old F w → CArgs F w xs args →
    Calls P f args w fun e w' => ∃ u, e = .returned u ∧ ∃ F' p', PRm F w (fun _ => (0, 0)) (fun _ => False) k m F' w' u new v p'

theorem PCall.r {P : Program} {f : FuncId} {xs : List AV} {v : AV} (h : PCall P f xs v) {k : Nat} : RCall P f xs k 0 [] v :=
  ⟨h.enter, fun id r hl => by simp [look] at hl, fun F w args ho ha => Calls.mono (h.run F w args ho ha) fun e w' ⟨u, h1, F', g1, g2, g3, g4⟩ =>
    ⟨u, h1, F', fun _ => (0, 0), g1, g2, g3, fun _ _ => rfl, fun id r hl => by simp [look] at hl, fun id id' r r' hl => by simp [look] at hl, g4.free⟩⟩

theorem RCall.sh {P : Program} {f : FuncId} {xs : List AV} {m : Nat} {new : Rows} {v : AV} (h : RCall P f xs 0 m new v) {k : Nat} : RCall P f xs k m (shR k new) (v.sh k) := by
  refine ⟨h.enter, fun id r hl => by obtain ⟨k1, r0, k2, rfl⟩ := look_shR k _ _ _ hl; have := h.rng _ _ k2; omega, fun F w args ho ha => Calls.mono (h.run F w args ho ha) ?_⟩
  rintro e w' ⟨u, h1, F', p', g⟩
  have hp : ∀ i, (False ∨ (0 ≤ i ∧ i < 0 + m)) → (fun i => if k ≤ i ∧ i < k + m then p' (i - k) else (0, 0)) (i + k) = p' i := by
    rintro i (h | ⟨_, h⟩)
    · exact h.elim
    · simp only; rw [if_pos (by omega), Nat.add_sub_cancel]
  have hD : ∀ i, (False ∨ (0 ≤ i ∧ i < 0 + m)) → (fun i => False ∨ (k ≤ i ∧ i < k + m)) (i + k) := by
    rintro i (h | ⟨_, h⟩)
    · exact h.elim
    · exact .inr ⟨by omega, by omega⟩
  refine ⟨u, h1, F', fun i => if k ≤ i ∧ i < k + m then p' (i - k) else (0, 0), g.grow, g.inF, g.newF, fun i hi => if_neg hi, fun id r hl => ?_, fun id id' r r' hl hl' hne => ?_, g.val.sh hp hD⟩
  · obtain ⟨k1, r0, k2, rfl⟩ := look_shR k _ _ _ hl
    obtain ⟨a1, a2, a3, a4, a5⟩ := g.nrow _ _ k2
    have hin : k ≤ id ∧ id < k + m := by omega
    simp only [if_pos hin]
    exact ⟨hin, a2, a3, a4, a5.sh hp hD⟩
  · obtain ⟨k1, r0, k2, rfl⟩ := look_shR k _ _ _ hl
    obtain ⟨k1', r0', k2', rfl⟩ := look_shR k _ _ _ hl'
    obtain ⟨a1, _⟩ := g.nrow _ _ k2
    obtain ⟨a1', _⟩ := g.nrow _ _ k2'
    simp only [if_pos (show k ≤ id ∧ id < k + m by omega), if_pos (show k ≤ id' ∧ id' < k + m by omega)]
    exact g.apart _ _ _ _ k2 k2' (by omega)

/-- Whatever the rows are. -/
theorem PRm.at {F' : Nat → Prop} {w' : World} {u : Value} {m : Nat} {new : Rows} {v : AV} {p1 : Place} (h : PRm F w (fun _ => (0, 0)) (fun _ => False) k m F' w' u new v p1) :
    PRm F w p D k m F' w' u new v (fun i => if k ≤ i ∧ i < k + m then p1 i else p i) := by
  have hp : ∀ i, (False ∨ (k ≤ i ∧ i < k + m)) → (fun i => if k ≤ i ∧ i < k + m then p1 i else p i) i = p1 i := by
    rintro i (h | h)
    · exact h.elim
    · simp only; rw [if_pos h]
  have tr : ∀ {v : AV} {u : Value}, VR F' w' p1 (fun i => False ∨ (k ≤ i ∧ i < k + m)) v u → VR F' w' (fun i => if k ≤ i ∧ i < k + m then p1 i else p i) (fun i => D i ∨ (k ≤ i ∧ i < k + m)) v u := fun h =>
    h.mono (fun _ h => h) (fun _ _ => rfl) (fun b c t fz hb => ⟨c, t, fz, hb, rfl⟩) hp (fun i hi => .inr (hi.resolve_left id))
  refine ⟨h.grow, h.inF, h.newF, fun i hi => if_neg hi, fun id r hl => ?_, fun id id' r r' hl hl' hne => ?_, tr h.val⟩
  · obtain ⟨a1, a2, a3, a4, ⟨⟨c, t, fz, hb, hf, hr, hv⟩, hz⟩⟩ := h.nrow _ _ hl
    simp only [if_pos a1]
    exact ⟨a1, a2, a3, a4, ⟨c, t, fz, hb, hf, hr, fun i x j v hx hj => tr (hv i x j v hx hj)⟩, hz⟩
  · simp only [if_pos (h.nrow _ _ hl).1, if_pos (h.nrow _ _ hl').1]
    exact h.apart _ _ _ _ hl hl' hne

/-! ### Calls in the store of the caller -/
inductive AO where
  | ret (v : AV)
  | pan (v : AV)
  deriving Inhabited
inductive OutR (F : Nat → Prop) (w : World) (p : Place) (D : Nat → Prop) : AO → Ending → Prop
  | ret (v : AV) (u : Value) (h : VR F w p D v u) : OutR F w p D (.ret v) (.returned u)
  | pan (v : AV) (u : Value) (h : VR F w p D v u) : OutR F w p D (.pan v) (.panicked [{ v := u, recovered := false }])

structure SCall (P : Program) (f : FuncId) (xs : List AV) (s : Store) (o : AO) (s' : Store) : Prop where
  enter : ∀ args w, (callFunc f args).run P w = .ok (.enter f args) w
  run : ∀ F w p args, SRel F w p (fun i => i < s.nx) s.rows → CellsOK F w p (fun i => i < s.nx) xs args →
    Calls P f args w fun e w' => ∃ F' p', OutR F' w' p' (fun i => i < s'.nx) o e ∧ SRel F' w' p' (fun i => i < s'.nx) s'.rows ∧ Evo s.nx F w p s F' w' p' s'

theorem look_append (a b : Rows) (id : Nat) : look (a ++ b) id = match look a id with | some r => some r | none => look b id := by
  induction a with
  | nil => rfl
  | cons x l ih =>
    obtain ⟨k, r⟩ := x
    simp only [List.cons_append, look_cons, ih]
    split <;> rfl

/-- The rows that are new, on top of the old ones. -/
theorem PRm.store {F' : Nat → Prop} {w' : World} {u : Value} {m n0 : Nat} {new : Rows} {v : AV} {p' : Place} {s : Store} (hs : SRel F w p (fun i => i < s.nx) s.rows) (hn : n0 ≤ s.nx) (h : PRm F w p (fun i => i < s.nx) s.nx m F' w' u new v p') :
    SRel F' w' p' (fun i => i < s.nx + m) (new ++ s.rows) ∧ Evo n0 F w p s F' w' p' ⟨s.nx + m, new ++ s.rows⟩ ∧ VR F' w' p' (fun i => i < s.nx + m) v u ∧
    ∀ (v0 : AV) (u0 : Value), VR F w p (fun i => i < s.nx) v0 u0 → VR F' w' p' (fun i => i < s.nx + m) v0 u0 := by
  have hpo : ∀ i, i < s.nx → p' i = p i := fun i hi => h.keep i (by omega)
  have hD : ∀ i, (i < s.nx ∨ (s.nx ≤ i ∧ i < s.nx + m)) → i < s.nx + m := fun i hi => by omega
  have keep : ∀ (v0 : AV) (u0 : Value), VR F w p (fun i => i < s.nx) v0 u0 → VR F' w' p' (fun i => i < s.nx + m) v0 u0 := fun v0 u0 h0 =>
    h0.mono h.inF (fun b hb => h.grow.same b (hs.old b hb)) (fun b c t fz hb => ⟨c, t, fz, h.grow.cells hb, rfl⟩) hpo (fun i hi => by omega)
  have notF : ∀ b, b < w.heap.size → ¬ F b → ¬ F' b := fun b hb hF hF' => (h.newF b hF').elim hF (fun h => by omega)
  have lt : ∀ id r, look s.rows id = some r → id < s.nx ∧ (p id).1 < w.heap.size := by
    intro id r hl
    obtain ⟨h1, _, ⟨c, t, fz, hb, _⟩, _⟩ := hs.row id r hl
    exact ⟨h1, lt_of_heap hb⟩
  have hcase : ∀ id r, look (new ++ s.rows) id = some r → look new id = some r ∨ look s.rows id = some r := by
    intro id r hl
    rw [look_append] at hl
    split at hl
    · rename_i r1 h1; cases hl; exact .inl h1
    · exact .inr hl
  have old : ∀ id r, look s.rows id = some r → id < s.nx + m ∧ ¬ F' (p' id).1 ∧ RowOK F' w' p' (fun i => i < s.nx + m) r (p' id).1 (p' id).2 := by
    intro id r hl
    obtain ⟨h1, h2, ⟨c, t, fz, hb, hf, hrr, hv⟩, hsz⟩ := hs.row id r hl
    have h1' : id < s.nx := h1
    rw [hpo id h1]
    exact ⟨by omega, notF _ (lt id r hl).2 h2, ⟨c, t, fz, h.grow.cells hb, hf, hrr, fun i x j v hx hj => keep _ _ (hv i x j v hx hj)⟩, hsz⟩
  refine ⟨⟨fun id r hl => ?_, fun id id' r r' hl hl' hne => ?_, hs.old.new h.grow h.inF h.newF⟩, ⟨h.grow.os, h.grow.tape, h.grow.output, h.grow.size, fun b hb _ => h.grow.same b hb, fun b c t fz hb => ⟨c, t, fz, h.grow.cells hb, rfl⟩, h.inF,
      fun b hb => (h.newF b hb).imp (fun h => h) (fun h => .inl h.1), ?_, fun id hid => hpo id (Nat.lt_of_lt_of_le hid hn), Nat.le_trans hn (Nat.le_add_right _ _)⟩, vr_D h.val hD, keep⟩
  · rcases hcase id r hl with hl | hl
    · obtain ⟨a1, a2, a3, a4, a5⟩ := h.nrow _ _ hl
      exact ⟨a1.2, a4, a5.toD hD⟩
    · exact old id r hl
  · rcases hcase id r hl with hl | hl <;> rcases hcase id' r' hl' with hl' | hl'
    · exact h.apart _ _ _ _ hl hl' hne
    · have := lt id' r' hl'
      have h2 := (h.nrow _ _ hl).2.1
      rw [hpo _ this.1]; exact fun e => by omega
    · have := lt id r hl
      have h2 := (h.nrow _ _ hl').2.1
      rw [hpo _ this.1]; exact fun e => by omega
    · rw [hpo _ (lt id r hl).1, hpo _ (lt id' r' hl').1]
      exact hs.apart id id' r r' hl hl' hne
  · rintro b ⟨id, r, hl, rfl⟩
    rcases hcase id r hl with hl | hl
    · exact .inl (h.nrow _ _ hl).2.1
    · right; rw [hpo _ (lt id r hl).1]; exact ⟨id, r, hl, rfl⟩

theorem RCall.s {P : Program} {f : FuncId} {xs : List AV} {m : Nat} {new : Rows} {v : AV} {s : Store} (h : RCall P f xs s.nx m new v) (hcl : ∀ x ∈ xs, Cl x) : SCall P f xs s (.ret v) ⟨s.nx + m, new ++ s.rows⟩ := by
  refine ⟨h.enter, fun F w p args hs ha => Calls.mono (h.run F w args hs.old ⟨ha.1, fun j x hj => (ha.2 j x hj).closed (hcl x (List.mem_of_getElem? hj))⟩) ?_⟩
  rintro e w' ⟨u, rfl, F', p1, hp⟩
  obtain ⟨h1, h2, h3, _⟩ := (hp.at (p := p) (D := fun i => i < s.nx)).store hs (Nat.le_refl _)
  exact ⟨F', _, .ret v u h3, h1, h2⟩

theorem PCall.s {P : Program} {f : FuncId} {xs : List AV} {v : AV} {s : Store} (h : PCall P f xs v) (hcl : ∀ x ∈ xs, Cl x) : SCall P f xs s (.ret v) s := h.r.s hcl

def ROp.pure : ROp → Bool
  | .st _ _ _ | .app _ _ _ _ _ | .cal _ _ | .cav _ _ | .pan _ | .cpy _ _ => false
  | _ => true

def skOf (P : Program) (t : TypeId) : Option SK :=
  match P.underlying t with
  | some .bool => some .b
  | some (.int k) => some (.i k)
  | some .string => some .s
  | _ => none
/-- A struct or an array of plain parts: where they stand. -/
def partsOf (P : Program) (t : TypeId) : Option (List (Nat × SK)) :=
  match P.underlying t with
  | some (.struct fs) => bif !(P.stoodInHeld t) && !(P.eqGuardType P.depth t) && fs.all (fun f => f.name != "_") then mapO (fun f => (skOf P f.type).map fun k => (f.offset, k)) fs.toList else none
  | some (.array n e) => bif !(P.eqGuardType P.depth t) && (sizeAt P e == some 1) then (skOf P e).map fun k => (List.range n).map fun i => (i, k) else none
  | _ => none

def eqNeg : BinOp → Option Bool
  | .eql => some false
  | .neq => some true
  | _ => none

def isIfcT (P : Program) (t : TypeId) : Bool := match P.underlying t with | some (.interface _) => true | _ => false
def liteE (P : Program) : Op → Option ROp
  | .binOp op t x y _ => (eqNeg op).bind fun g => bif isIfcT P t then (match y with | .const .nilIface => (opd x).bind fun x => some (.eqi g x) | _ => none) else (partsOf P t).bind fun l => (opd x).bind fun x => (opd y).bind fun y => some (.eqv g l x y)
  | .panic x => (opd x).map .pan
  | .typeAssert x _ t false => bif isIfcT P t then none else (P.underlying t).bind fun _ => (opd x).map (.tas t)
  | .store t a x => (sizeAt P t).bind fun n => (opd a).bind fun a => (opd x).bind fun x => some (.st n a x)
  | .call ⟨.value (.func f), args, _⟩ => (mapO opd args.toList).map (.cal f)
  | .call ⟨.value (.tmp t), args, _⟩ => (mapO opd args.toList).map (.cav (.t t))
  | .call ⟨.builtin .append, args, ats⟩ =>
    match args.toList with
    | [x, y] => (opd x).bind fun x => (opd y).bind fun y => match (ats[0]?).bind P.underlying, (ats[1]?).bind P.underlying with
      | some (.slice e), some (.slice _) => (P.info? e).bind fun i => (zeroOf P e).bind fun z => some (.app i.size i.bytes z x y)
      | _, _ => none
    | _ => none
  | .call ⟨.builtin .copy, args, ats⟩ =>
    match args.toList with
    | [x, y] => (opd x).bind fun x => (opd y).bind fun y => match (ats[0]?).bind P.underlying, (ats[1]?).bind P.underlying with
      | some (.slice e), some (.slice _) => bif sizeAt P e == some 1 then some (.cpy x y) else none
      | _, _ => none
    | _ => none
  | _ => none

def lite1 (P : Program) (o : Op) : Option ROp :=
  match liteE P o with
  | some r => some r
  | none => match liteOp P o with
    | some r => bif r.pure then some r else none
    | none => none

theorem lite1_cases {o : Op} {r : ROp} (h : lite1 P o = some r) : liteE P o = some r ∨ (liteOp P o = some r ∧ r.pure = true) := by
  unfold lite1 at h
  split at h
  · rename_i r' h'; cases h; exact .inl h'
  · split at h
    · rename_i r' h'
      cases hp : r'.pure with
      | true => rw [hp] at h; simp only [cond_true, Option.some.injEq] at h; subst h; exact .inr ⟨h', hp⟩
      | false => rw [hp] at h; cases h
    · cases h

/-- What a called function is given. -/
theorem cargs {vs : List AV} {us : Array Value} (h : CellsOK F w p D vs us) (hcl : ∀ x ∈ vs, Cl x) : CArgs F w vs us :=
  ⟨h.1, fun j x hj => (h.2 j x hj).closed (hcl x (List.mem_of_getElem? hj))⟩

/-- What a call gives, of closed arguments, or of rows that it reads. -/
def argsR (P : Program) (rows : Rows) (g : FuncId) (vs : List AV) (k m : Nat) (new : Rows) (v : AV) : Prop :=
  ((∀ x ∈ vs, Cl x) ∧ RCall P g vs k m new v) ∨ ∃ ys, All2 (frzArg rows) vs ys ∧ RCall P g ys k m new v ∧ Fl v ∧ flRows new

theorem frz_prm {g : FuncId} {us : Array Value} {vs ys : List AV} {v : AV} {m : Nat} {new : Rows} (hs : SRel F w p D rows) (hu : CellsOK F w p D vs us) (hx : All2 (frzArg rows) vs ys) (h : RCall P g ys k m new v) (hv : Fl v) (hnew : flRows new) :
    Calls P g us w fun e w' => ∃ u, e = .returned u ∧ ∃ p', PRm F w p D k m F w' u new v p' := by
  have hold : Old (frozenIn F p rows (fun _ => true)) w := hs.frozen
  have hargs : CArgs (frozenIn F p rows (fun _ => true)) w ys us := by
    refine ⟨by rw [all2_len hx]; exact hu.1, fun j x' hj => ?_⟩
    have hlt : j < vs.length := by rw [← all2_len hx]; exact (List.getElem?_eq_some_iff.1 hj).1
    obtain ⟨h1, h2⟩ := all2_get hx j _ x' (List.getElem?_eq_getElem hlt) hj
    have := hu.2 j _ (List.getElem?_eq_getElem hlt)
    exact (VR.cv (D' := D) hs (fun _ h => h) h1 this).closed h2
  refine Calls.mono (h.run _ w us hold hargs) ?_
  rintro e w' ⟨u, rfl, F', p1, hp⟩
  have q := hp.at (p := p) (D := D)
  refine ⟨u, rfl, _, q.grow, fun _ h => h, fun _ h => .inl h, q.keep, fun id r hl => ?_, q.apart, q.val.flat hv⟩
  obtain ⟨a1, a2, a3, _, ⟨⟨c, t, fz, hb, hf, hr, hv2⟩, hz⟩⟩ := q.nrow _ _ hl
  have hfl := flRows_look hnew hl
  exact ⟨a1, a2, a3, fun hF => by have := hs.old _ hF; omega, ⟨c, t, fz, hb, hf, hr, fun i x j v hx hj => (hv2 i x j v hx hj).flat (hfl x (List.mem_of_getElem? hx) v (List.mem_of_getElem? hj))⟩, hz⟩

theorem argsR.enter {P : Program} {rows : Rows} {g : FuncId} {vs : List AV} {k m : Nat} {new : Rows} {v : AV} (h : argsR P rows g vs k m new v) : ∀ args w, (callFunc g args).run P w = .ok (.enter g args) w := by
  rcases h with ⟨_, h⟩ | ⟨_, _, h, _⟩ <;> exact h.enter
theorem argsR.rng {P : Program} {rows : Rows} {g : FuncId} {vs : List AV} {k m : Nat} {new : Rows} {v : AV} (h : argsR P rows g vs k m new v) : ∀ id r, look new id = some r → k ≤ id ∧ id < k + m := by
  rcases h with ⟨_, h⟩ | ⟨_, _, h, _⟩ <;> exact h.rng

theorem call_does {o : Oper} {g : FuncId} {us : Array Value} {vs : List AV} {ρ : Operand → Value} {v : AV} {m : Nat} {new : Rows} (hs : SRel F w p D rows) (hr : (execOp ρ o).run P w = (callFunc g us).run P w) (hu : CellsOK F w p D vs us) (hc : argsR P rows g vs k m new v) :
    Does P o ρ w fun u w' => ∃ F' p', PRm F w p D k m F' w' u new v p' := by
  refine .enter g us (hr.trans (hc.enter us w)) ?_
  rcases hc with ⟨h2, hc⟩ | ⟨ys, h2, hc, h3, h4⟩
  · refine Calls.mono (hc.run F w us hs.old (cargs hu h2)) ?_
    rintro e w' ⟨u, rfl, F', p1, h1⟩
    exact ⟨u, rfl, F', _, h1.at⟩
  · refine Calls.mono (frz_prm hs hu h2 hc h3 h4) ?_
    rintro e w' ⟨u, rfl, p1, h1⟩
    exact ⟨u, rfl, F, _, h1⟩

/-- What an operation does, on abstract values: 'im': a slice that is built is never written. -/
def achR (P : Program) (im : Bool) (op : ROp) (e : Env) (rows : Rows) (k m : Nat) (new : Rows) (v : AV) : Prop :=
  match op with
  | .cal f xs => allLv e xs ∧ argsR P rows f (xs.map (sv e)) k m new v
  | .cav f xs => lv e f ∧ allLv e xs ∧ ∃ g a b, sv e f = .fn (.func g) a b ∧ argsR P rows g (a ++ xs.map (sv e) ++ b) k m new v
  | .bslice sz n z ps => (z.length = sz ∧ n * sz ≤ 2 ^ 24 ∧ elemsC e sz n ps) ∧ m = 1 ∧
    ((im = false ∧ new = [(k, ⟨sz, elemsV e (List.replicate n z) ps⟩)] ∧ v = .sl k sz 0 n (some n)) ∨ (im = true ∧ 0 < n ∧ new = [] ∧ v = .ros sz (elemsV e (List.replicate n z) ps)))
  | op => pcond e rows op ∧ m = 1 ∧ new = push [] k (prow e rows op) ∧ v = pval e rows k op

theorem CellsOK.append {as bs : List AV} {us vs : Array Value} (h : CellsOK F w p D as us) (g : CellsOK F w p D bs vs) : CellsOK F w p D (as ++ bs) (us ++ vs) := by
  refine ⟨by simp [h.1, g.1], fun j v hj => ?_⟩
  by_cases hlt : j < as.length
  · rw [List.getElem?_append_left hlt] at hj
    have := h.2 j v hj
    rwa [Array.getD_eq_getD_getElem?, Array.getElem?_append_left (by rw [h.1]; exact hlt), ← Array.getD_eq_getD_getElem?]
  · rw [List.getElem?_append_right (by omega)] at hj
    have := g.2 _ v hj
    rw [Array.getD_eq_getD_getElem?, Array.getElem?_append_right (by rw [h.1]; omega), h.1, ← Array.getD_eq_getD_getElem?]
    exact this

theorem elemsV_length (e : Env) : ∀ (ps : List (Nat × Opd)) (es : List (List AV)), (elemsV e es ps).length = es.length
  | [], es => rfl
  | (i, x) :: l, es => by simp [elemsV, elemsV_length e l]

theorem sk_sound {t : TypeId} {sk : SK} {x y : AV} {u v : Value} (d : Nat) (h : skOf P t = some sk) (hx : VR F w p D x u) (hy : VR F w p D y v) (cx : skC sk x) (cy : skC sk y) :
    (Op.equalIn (d + 1) t u v).run P w = .ok (skE x y) w := by
  unfold skOf at h
  split at h <;> simp only [Option.some.injEq, reduceCtorEq] at h <;> subst h <;> rename_i hu
  · cases x <;> first | exact cx.elim | skip
    cases y <;> first | exact cy.elim | skip
    cases hx; cases hy
    exact run_equalIn_bool' w d t _ _ hu
  · cases x <;> first | exact cx.elim | skip
    cases y <;> first | exact cy.elim | skip
    cases hx; cases hy
    obtain rfl : _ = _ := cx
    obtain rfl : _ = _ := cy
    exact run_equalIn_int w d t _ _ _ _ hu
  · cases x <;> first | exact cx.elim | skip
    cases y <;> first | exact cy.elim | skip
    cases hx; cases hy
    exact run_equalIn_string w d t _ _ hu

theorem sk_size {t : TypeId} {sk : SK} (h : skOf P t = some sk) : isAggT P t = some false := by
  unfold skOf at h
  unfold isAggT
  split at h <;> first | (rename_i hu; simp [hu]; done) | cases h

theorem part_one {cs : List AV} {us : Array Value} (h : CellsOK F w p D cs us) {t : TypeId} {off : Nat} (hg : isAggT P t = some false) (ho : off < cs.length) : ∃ u, (part t us off).run P w = .ok u w ∧ VR F w p D (cs.getD off .any) u := by
  refine ⟨us.getD off undef, ?_, ?_⟩
  · have : off < us.size := by rw [h.1]; exact ho
    simp [part, run_isAgg hg, this]
  · have hx : cs[off]? = some (cs.getD off .any) := by simp [List.getD, List.getElem?_eq_getElem ho]
    exact h.2 off _ hx

theorem fields_sound (d : Nat) {cs ds : List AV} {us vs : Array Value} (h1 : CellsOK F w p D cs us) (h2 : CellsOK F w p D ds vs) : ∀ (fs : List Field) (l : List (Nat × SK)), fs.all (fun f => f.name != "_") = true →
    mapO (fun f => (skOf P f.type).map fun k => (f.offset, k)) fs = some l → eqvC l cs ds → (Op.eqFields (d + 1) us vs fs).run P w = .ok (eqvV l cs ds) w
  | [], l, _, hm, _ => by simp only [mapO, Option.some.injEq] at hm; subst hm; rfl
  | f :: fs, l, hn, hm, hc => by
    simp only [mapO] at hm
    split at hm
    · rename_i x l' hx hl
      simp only [Option.some.injEq] at hm; subst hm
      simp only [Option.map_eq_some_iff] at hx
      obtain ⟨k, hk, rfl⟩ := hx
      obtain ⟨⟨c1, c2, c3, c4⟩, hc'⟩ := hc
      simp only [List.all_cons, Bool.and_eq_true, bne_iff_ne] at hn
      obtain ⟨u, p1, q1⟩ := part_one (P := P) h1 (sk_size hk) c1
      obtain ⟨v, p2, q2⟩ := part_one (P := P) h2 (sk_size hk) c2
      have := sk_sound (P := P) d hk q1 q2 c3 c4
      simp only [Op.eqFields, if_pos hn.1, Sem.run_bind, p1, Result.andThen_ok, p2, this, eqvV]
      have ih := fields_sound d h1 h2 fs l' hn.2 hl hc'
      cases skE (cs.getD f.offset .any) (ds.getD f.offset .any) with
      | false => simp
      | true => simpa using ih
    · cases hm

theorem array_sound (d : Nat) {t el : TypeId} {n : Nat} {sk : SK} (hu : P.underlying t = some (.array n el)) (hsk : skOf P el = some sk) (hz : sizeAt P el = some 1) {cs ds : List AV} {us vs : Array Value} (h1 : CellsOK F w p D cs us) (h2 : CellsOK F w p D ds vs)
    (hc : eqvC ((List.range n).map fun i => (i, sk)) cs ds) : (Op.equalIn (d + 2) t (.agg us) (.agg vs)).run P w = .ok (eqvV ((List.range n).map fun i => (i, sk)) cs ds) w := by
  rw [Op.equalIn]
  simp only [Sem.run_bind, run_underlying hu, Result.andThen_ok, run_sizeAt hz, Nat.mul_one, Std.Legacy.Range.forIn_eq_forIn_range', Std.Legacy.Range.size, Nat.sub_zero, Nat.add_sub_cancel, Nat.div_one]
  rw [List.range_eq_range'] at hc ⊢
  generalize List.range' 0 n = l at hc ⊢
  induction l with
  | nil => simp [eqvV]
  | cons i l ih =>
    obtain ⟨⟨c1, c2, c3, c4⟩, hc'⟩ := hc
    obtain ⟨u, p1, q1⟩ := part_one (P := P) h1 (sk_size hsk) c1
    obtain ⟨v, p2, q2⟩ := part_one (P := P) h2 (sk_size hsk) c2
    have := sk_sound (P := P) d hsk q1 q2 c3 c4
    simp only [List.forIn_cons, Sem.run_bind, p1, Result.andThen_ok, p2, this, List.map_cons, eqvV]
    cases hb : skE (cs.getD i .any) (ds.getD i .any) with
    | false => simp [hb]
    | true =>
      have ih := ih hc'
      simpa [hb] using ih

theorem eqv_sound {t : TypeId} {l : List (Nat × SK)} {x y : AV} {u v : Value} (hp : partsOf P t = some l) (hx : VR F w p D x u) (hy : VR F w p D y v) (hc : eqaC l x y) (neg : Bool) (ρ : Operand → Value) (a b : Operand) (ha : ρ a = u) (hb : ρ b = v) (yt : TypeId) (dst ty pos after guard) :
    ∃ r, (execOp ρ ⟨dst, .binOp (if neg then .neq else .eql) t a b yt, ty, pos, after, guard⟩).run P w = .ok (.value (.bool r)) w ∧ eqaV neg l x y = .bool r := by
  cases x <;> cases y <;> try exact hc.elim
  rename_i cs ds
  obtain ⟨us, rfl, h1⟩ := aggOf hx
  obtain ⟨vs, rfl, h2⟩ := aggOf hy
  simp only [eqaC] at hc
  have key : (Op.equalIn 10000 t (.agg us) (.agg vs)).run P w = .ok (eqvV l cs ds) w ∧ P.eqGuardType P.depth t = false := by
    unfold partsOf at hp
    split at hp
    · rename_i fs hu
      cases hst : P.stoodInHeld t with
      | true => rw [hst] at hp; simp at hp
      | false =>
        cases hg : P.eqGuardType P.depth t with
        | true => rw [hg] at hp; simp at hp
        | false =>
          cases hn : fs.all (fun f => f.name != "_") with
          | false => rw [hst, hg, hn] at hp; simp at hp
          | true =>
            rw [hst, hg, hn] at hp
            simp only [Bool.not_false, Bool.and_self, cond_true] at hp
            have hfs : P.fieldsOf t = fs := by simp [Program.fieldsOf, hu]
            refine ⟨?_, rfl⟩
            rw [run_equalIn_struct w 9999 t us vs (by rw [hfs]; exact hu) hst, hfs]
            exact fields_sound 9998 h1 h2 fs.toList l (by simpa using hn) hp hc
    · rename_i n el hu
      cases hg : P.eqGuardType P.depth t with
      | true => rw [hg] at hp; simp at hp
      | false =>
        cases hz : (sizeAt P el == some 1) with
        | false => rw [hz] at hp; simp at hp
        | true =>
          rw [hg, hz] at hp
          simp only [Bool.not_false, Bool.and_self, cond_true, Option.map_eq_some_iff] at hp
          obtain ⟨sk, hsk, rfl⟩ := hp
          exact ⟨array_sound 9998 hu hsk (by simpa using hz) h1 h2 hc, rfl⟩
    · cases hp
  refine ⟨_, ?_, rfl⟩
  cases neg with
  | false =>
    simp only [execOp, ha, hb, Bool.false_eq_true, if_false, Sem.run_bind, run_eqGuard_agg w _ t a b us vs key.2, Result.andThen_ok, run_eql_struct, key.1, cond_false, Sem.run_pure]
  | true =>
    simp only [execOp, ha, hb, if_true, Sem.run_bind, run_eqGuard_agg w _ t a b us vs key.2, Result.andThen_ok, run_neq_struct, key.1, cond_true, Sem.run_pure]

theorem equalIn_ifc (d : Nat) {t : TypeId} {ms : Array (String × TypeId)} (hu : P.underlying t = some (.interface ms)) {x : AV} {u : Value} (hx : VR F w p D x u) (hc : ifcIs x) :
    (Op.equalIn (d + 1) t u .nilIface).run P w = .ok (niliV x) w := by
  cases x <;> first | exact hc.elim | (cases hx; simp [Op.equalIn, run_underlying hu, niliV])
theorem eqGuard_const {op : BinOp} {t : TypeId} {x : Operand} {c : Value} {v : AV} {u : Value} (hx : VR F w p D v u) (hc : ifcIs v) : (eqGuard op t x (.const c) u .nilIface).run P w = .ok () w := by
  cases v <;> first | exact hc.elim | (cases hx; cases op <;> simp [eqGuard])
theorem eqi_sound {t : TypeId} {x : AV} {u : Value} (ht : isIfcT P t = true) (hx : VR F w p D x u) (hc : ifcIs x) (neg : Bool) (ρ : Operand → Value) (a : Operand) (ha : ρ a = u) (hn : ρ (.const .nilIface) = .nilIface) (yt : TypeId) (dst ty pos after guard) :
    (execOp ρ ⟨dst, .binOp (if neg then .neq else .eql) t a (.const .nilIface) yt, ty, pos, after, guard⟩).run P w = .ok (.value (.bool (bif neg then !(niliV x) else niliV x))) w := by
  unfold isIfcT at ht
  split at ht
  · rename_i ms hu
    have h1 := equalIn_ifc (P := P) 9999 hu hx hc
    have h2 : ∀ op, (eqGuard op t a (.const .nilIface) u .nilIface).run P w = .ok () w := fun op => eqGuard_const hx hc
    have h3 : (binOp (if neg then .neq else .eql) t u .nilIface).run P w = .ok (.bool (bif neg then !(niliV x) else niliV x)) w := by
      cases x <;> first | exact hc.elim | skip
      all_goals (cases hx; cases neg <;> simp only [if_true, Bool.false_eq_true, if_false, cond_true, cond_false, binOp, equal_at, Sem.run_bind, h1, Result.andThen_ok, Sem.run_pure])
    simp only [execOp, ha, hn, Sem.run_bind, h2, Result.andThen_ok, h3, Sem.run_pure]
  · cases ht

theorem ach_eff {o : Oper} {r : ROp} {im : Bool} {m : Nat} {new : Rows} {ρ : Operand → Value} {v : AV} (hs : SRel F w p D rows) (hk : m ≠ 0 → ¬ D k) (hl : liteE P o.op = some r) (hcn : ∀ c, ρ (.const c) = c)
    (ho : ∀ x ∈ o.op.operands, ∀ y, opd x = some y → VR F w p D (ev e y) (ρ x)) (hc : achR P im r e rows k m new v) :
    Does P o ρ w fun u w' => ∃ F' p', PRm F w p D k m F' w' u new v p' := by
  obtain ⟨dst, op, ty, pos, after, guard⟩ := o
  · cases op <;> simp only [liteE, reduceCtorEq] at hl
    case binOp op t x y yt =>
      simp only [Option.bind_eq_some_iff, Option.some.injEq] at hl
      obtain ⟨g, hg, hl⟩ := hl
      have hop : op = if g then .neq else .eql := by cases op <;> simp [eqNeg] at hg <;> subst hg <;> rfl
      cases hi : isIfcT P t with
      | true =>
        rw [hi] at hl
        simp only [cond_true] at hl
        split at hl
        · simp only [Option.bind_eq_some_iff, Option.some.injEq] at hl
          obtain ⟨x', hx', rfl⟩ := hl
          obtain ⟨⟨c1, c2⟩, rfl, rfl, rfl⟩ := hc
          have v1 := (ho x (by simp [Op.operands]) x' hx').sv c1
          rw [hop]
          have := eqi_sound (P := P) hi v1 c2 g ρ x rfl (hcn _) yt dst ty pos after guard
          refine .value _ w this ⟨F, _, ((PRes.same hs (hk (by simp)) (?_ : VR F w p D (pval e rows k (.eqi g x')) _)).pr hs).m⟩
          simp only [pval]
          exact .bool _
        · cases hl
      | false =>
        rw [hi] at hl
        simp only [cond_false, Option.bind_eq_some_iff, Option.some.injEq] at hl
        obtain ⟨l, hp, x', hx', y', hy', rfl⟩ := hl
        obtain ⟨⟨c1, c2, c3⟩, rfl, rfl, rfl⟩ := hc
        have v1 := (ho x (by simp [Op.operands]) x' hx').sv c1
        have v2 := (ho y (by simp [Op.operands]) y' hy').sv c2
        rw [hop]
        obtain ⟨q, hrun, hq⟩ := eqv_sound (P := P) hp v1 v2 c3 g ρ x y rfl rfl yt dst ty pos after guard
        refine .value _ w hrun ⟨F, _, ((PRes.same hs (hk (by simp)) (?_ : VR F w p D (pval e rows k (.eqv g l x' y')) _)).pr hs).m⟩
        simp only [pval, hq]
        exact .bool _
    case store t a x =>
      simp only [Option.bind_eq_some_iff, Option.some.injEq] at hl
      obtain ⟨_, _, _, _, _, _, rfl⟩ := hl
      exact hc.1.elim
    case panic x =>
      simp only [Option.map_eq_some_iff] at hl
      obtain ⟨_, _, rfl⟩ := hl
      exact hc.1.elim
    case typeAssert x xt t ok =>
      cases ok with
      | true => cases hl
      | false =>
        cases hi : isIfcT P t with
        | true => simp only [hi, cond_true] at hl; cases hl
        | false =>
          simp only [hi, cond_false, Option.bind_eq_some_iff, Option.map_eq_some_iff] at hl
          obtain ⟨d, hd, x', hx', rfl⟩ := hl
          obtain ⟨⟨c1, c2⟩, rfl, rfl, rfl⟩ := hc
          have v1 := (ho x (by simp [Op.operands]) x' hx').sv c1
          cases hxv : sv e x' with
          | ifc t' v0 =>
            rw [hxv] at v1 c2
            obtain rfl : t' = t := c2
            generalize hu : ρ x = u at v1
            cases v1 with
            | ifc _ _ u0 hu0 =>
              refine .value u0 w ?_ ⟨F, _, ((PRes.same hs (hk (by simp)) (?_ : VR F w p D (pval e rows k (.tas t' x')) _)).pr hs).m⟩
              · have hni : ∀ ms, d ≠ .interface ms := by rintro ms rfl; simp [isIfcT, hd] at hi
                simp only [execOp, hu, Instr.typeAssert, Sem.run_bind, run_underlying hd, Result.andThen_ok]
                cases d <;> first | exact absurd rfl (hni _) | simp
              · simp only [pval, hxv, tasV]; exact hu0
          | _ => rw [hxv] at c2; exact c2.elim
    case call c =>
      obtain ⟨callee, args, ats⟩ := c
      have hops : ∀ x ∈ args, ∀ y, opd x = some y → VR F w p D (ev e y) (ρ x) := fun x hx => ho x (by simp [Op.operands, Call.operands, hx])
      cases callee with
      | invoke r m => cases hl
      | builtin b =>
        cases b <;> simp only [reduceCtorEq] at hl
        case append =>
          split at hl
          · simp only [Option.bind_eq_some_iff] at hl
            obtain ⟨_, _, _, _, hl⟩ := hl
            split at hl
            · simp only [Option.bind_eq_some_iff, Option.some.injEq] at hl
              obtain ⟨_, _, _, _, rfl⟩ := hl
              exact hc.1.elim
            · cases hl
          · cases hl
        case copy =>
          split at hl
          · simp only [Option.bind_eq_some_iff] at hl
            obtain ⟨_, _, _, _, hl⟩ := hl
            split at hl
            · rename_i el el' _ _
              cases hz : sizeAt P el == some 1 with
              | false => rw [hz] at hl; cases hl
              | true =>
                rw [hz] at hl
                simp only [cond_true, Option.some.injEq] at hl
                subst hl
                exact hc.1.elim
            · cases hl
          · cases hl
      | value f =>
        cases f <;> simp only [Option.map_eq_some_iff, reduceCtorEq] at hl
        case func g =>
          obtain ⟨ys, hys, rfl⟩ := hl
          obtain ⟨h1, h2⟩ := hc
          have hv := ho (.func g) (by simp [Op.operands, Call.operands]) (.f g) rfl
          simp only [ev] at hv
          generalize hu : ρ (.func g) = u at hv
          cases hv with
          | fn _ _ _ us vs g1 g2 g3 g4 =>
            have e1 : us = #[] := Array.eq_empty_of_size_eq_zero g1
            have e2 : vs = #[] := Array.eq_empty_of_size_eq_zero g2
            refine call_does hs ?_ (list_ok hys hops h1) h2
            simp [execOp, resolve, hu, Deferred.ofValue, invoke, e1, e2]
        case tmp t =>
          obtain ⟨ys, hys, rfl⟩ := hl
          obtain ⟨h0, h1, g, a, b, hg, h2⟩ := hc
          have hv := (ho (.tmp t) (by simp [Op.operands, Call.operands]) (.t t) rfl).sv h0
          rw [hg] at hv
          generalize hu : ρ (.tmp t) = u at hv
          cases hv with
          | fn _ _ _ us vs g1 g2 g3 g4 =>
            refine call_does hs ?_ ((CellsOK.append ⟨g1, g3⟩ (list_ok hys hops h1)).append ⟨g2, g4⟩) h2
            simp [execOp, resolve, hu, Deferred.ofValue, invoke]

theorem ach_pure {o : Oper} {r : ROp} {im : Bool} {m : Nat} {new : Rows} {ρ : Operand → Value} {v : AV} (hs : SRel F w p D rows) (hk : m ≠ 0 → ¬ D k) (hl : liteOp P o.op = some r) (hp : r.pure = true)
    (ho : ∀ x ∈ o.op.operands, ∀ y, opd x = some y → VR F w p D (ev e y) (ρ x)) (hc : achR P im r e rows k m new v) :
    Does P o ρ w fun u w' => ∃ F' p', PRm F w p D k m F' w' u new v p' := by
  · have hc' : ∀ {m' : Nat} {new' : Rows} {v' : AV}, ¬ D k → pcond e rows r → m' = 1 → new' = push [] k (prow e rows r) → v' = pval e rows k r → Does P o ρ w fun u w' => ∃ F' p', PRm F w p D k m' F' w' u new' v' p' := by
      rintro _ _ _ hk h1 rfl rfl rfl
      obtain ⟨u, w', h2, h3⟩ := pure_sound hs hk hl ho h1
      exact .value u w' h2 ⟨F, _, (h3.pr hs).m⟩
    cases r <;> simp only [ROp.pure, reduceCtorEq] at hp <;> try exact hc' (hk (by rw [hc.2.1]; simp)) hc.1 hc.2.1 hc.2.2.1 hc.2.2.2
    case bslice =>
      obtain ⟨h1, rfl, h2⟩ := hc
      rcases h2 with ⟨rfl, rfl, rfl⟩ | ⟨rfl, hn, rfl, rfl⟩
      · exact hc' (hk (by simp)) h1 rfl rfl rfl
      · obtain ⟨u, w', h2, h3⟩ := pure_sound hs (hk (by simp)) hl ho (show pcond e rows (.bslice _ _ _ _) from h1)
        exact .value u w' h2 ⟨_, _, (PRes.imm hs hn (by rw [elemsV_length]; simp) h3).m⟩

theorem ach_sound {o : Oper} {r : ROp} {im : Bool} {m : Nat} {new : Rows} {ρ : Operand → Value} {v : AV} (hs : SRel F w p D rows) (hk : m ≠ 0 → ¬ D k) (hl : lite1 P o.op = some r) (hcn : ∀ c, ρ (.const c) = c)
    (ho : ∀ x ∈ o.op.operands, ∀ y, opd x = some y → VR F w p D (ev e y) (ρ x)) (hc : achR P im r e rows k m new v) :
    Does P o ρ w fun u w' => ∃ F' p', PRm F w p D k m F' w' u new v p' := by
  rcases lite1_cases hl with hl | ⟨hl, hp⟩
  · exact ach_eff hs hk hl hcn ho hc
  · exact ach_pure hs hk hl hp ho hc
end
end Go.Proofs.YtggmkfagcjdifaaDoor.Ai
