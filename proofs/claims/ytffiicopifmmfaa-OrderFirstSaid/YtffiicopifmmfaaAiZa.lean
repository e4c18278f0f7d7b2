/-
  Loops by states, ends that freeze what they give. Plain facts, no condition.
-/
import Derived.Test.YtffiicopifmmfaaAiZ
namespace Go.Proofs.Ytffiicopifmmfaa.Ai
set_option linter.unusedSimpArgs false
set_option linter.unusedVariables false
set_option linter.unnecessarySimpa false
set_option linter.unusedSectionVars false
set_option linter.unusedVariables false

section
variable {α : Type} (St : α → Env × Store) (I : α → Prop) (μ : α → Nat)
def isSt' (e : Env) (s : Store) : Prop := ∃ a, I a ∧ (St a).1 = e ∧ (St a).2 = s
open Classical in
noncomputable def minM (e : Env) (s : Store) : Nat := if h : ∃ m a, I a ∧ (St a).1 = e ∧ (St a).2 = s ∧ μ a = m then Classical.choose (least _ h) else 0
theorem minM_le {a : α} (h : I a) : minM St I μ (St a).1 (St a).2 ≤ μ a := by
  have hex : ∃ m b, I b ∧ (St b).1 = (St a).1 ∧ (St b).2 = (St a).2 ∧ μ b = m := ⟨_, a, h, rfl, rfl, rfl⟩
  unfold minM; rw [dif_pos hex]
  exact (Classical.choose_spec (least _ hex)).2 _ ⟨a, h, rfl, rfl, rfl⟩
theorem minM_at {e : Env} {s : Store} (h : isSt' St I e s) : ∃ a, I a ∧ (St a).1 = e ∧ (St a).2 = s ∧ μ a = minM St I μ e s := by
  obtain ⟨a, ha, rfl, rfl⟩ := h
  have hex : ∃ m b, I b ∧ (St b).1 = (St a).1 ∧ (St b).2 = (St a).2 ∧ μ b = m := ⟨_, a, ha, rfl, rfl, rfl⟩
  unfold minM; rw [dif_pos hex]
  exact (Classical.choose_spec (least _ hex)).1

/-- The end of a round: a next state stands for the one at hand. -/
def rndQ (n0 : Nat) (m : Nat) (e : Env) (s : Store) : Prop := ∃ e' s', Wk n0 e s e' s' ∧ isSt' St I e' s' ∧ minM St I μ e' s' < m
theorem rnd_to {n0 m : Nat} {e : Env} {s : Store} (a : α) (h : I a) (hm : μ a < m) (hw : Wk n0 e s (St a).1 (St a).2) : rndQ St I μ n0 m e s :=
  ⟨_, _, hw, ⟨a, h, rfl, rfl⟩, Nat.lt_of_le_of_lt (minM_le St I μ h) hm⟩
theorem w_loopS {P : Program} {n0 : Nat} {Q : AX → Env → Store → Prop} {e : Env} {s : Store} {b : RQ} (a0 : α) (h0 : I a0) (hw : Wk n0 e s (St a0).1 (St a0).2)
    (h : ∀ a, I a → rwp P n0 b (thn (rndQ St I μ n0 (μ a)) Q) (St a).1 (St a).2) : rwp P n0 (.loop b) Q e s := by
  refine ⟨isSt' St I, minM St I μ, ⟨_, _, hw, a0, h0, rfl, rfl⟩, ?_⟩
  intro e s hs
  obtain ⟨b0, hb, rfl, rfl, h3⟩ := minM_at St I μ hs
  rw [← h3]
  exact h b0 hb
end

/-! ### Ends -/
theorem All2.refl {α : Type} {R : α → α → Prop} (h : ∀ x, R x x) : ∀ l : List α, All2 R l l
  | [] => trivial
  | x :: l => ⟨h x, All2.refl h l⟩
def rvE : List RV → AV → Option Env
  | [], .tup [] => some []
  | [.t t], v => some [(t, v)]
  | [.c t false 1], v => some [(t, .rop [v])]
  | [.c t true _], .agg cs => some [(t, .rop cs)]
  | .t t :: r :: l, .tup (v :: w :: vs) => (rvE2 (r :: l) (w :: vs)).map ((t, v) :: ·)
  | .c t false 1 :: r :: l, .tup (v :: w :: vs) => (rvE2 (r :: l) (w :: vs)).map ((t, .rop [v]) :: ·)
  | .c t true _ :: r :: l, .tup (.agg cs :: w :: vs) => (rvE2 (r :: l) (w :: vs)).map ((t, .rop cs) :: ·)
  | _, _ => none
where
  rvE2 : List RV → List AV → Option Env
  | [], [] => some []
  | .t t :: l, v :: vs => (rvE2 l vs).map ((t, v) :: ·)
  | .c t false 1 :: l, v :: vs => (rvE2 l vs).map ((t, .rop [v]) :: ·)
  | .c t true _ :: l, .agg cs :: vs => (rvE2 l vs).map ((t, .rop cs) :: ·)
  | _, _ => none

section
variable {rows : Rows} {Z : Nat → Bool}
theorem cv_self (v : AV) : Cv rows Z (fun i => i) v v := by
  suffices H : ∀ (n : Nat) (v : AV), SizeOf.sizeOf v < n → Cv rows Z (fun i => i) v v from H _ v (Nat.lt_succ_self _)
  intro n
  induction n with
  | zero => intro v h; omega
  | succ n ih =>
    intro v h
    have mem : ∀ {cs : List AV}, SizeOf.sizeOf cs < n → ∀ (j : Nat) (c d : AV), cs[j]? = some c → cs[j]? = some d → Cv rows Z (fun i => i) c d := by
      intro cs hs j c d hc hd
      rw [hc] at hd; cases hd
      exact ih c (Nat.lt_of_lt_of_le (List.sizeOf_lt_of_mem (List.mem_of_getElem? hc)) (by omega))
    cases v with
    | any => exact .any _
    | bool b => exact .bool b
    | int k m => exact .int k m
    | str s => exact .str s
    | nilp => exact .nilp
    | nils => exact .nils
    | nilf => exact .nilf
    | nili => exact .nili
    | nilm => exact .nilm
    | agg cs => simp only [AV.agg.sizeOf_spec] at h; exact .agg cs cs rfl (mem (by omega))
    | tup cs => simp only [AV.tup.sizeOf_spec] at h; exact .tup cs cs rfl (mem (by omega))
    | ros sz es =>
      simp only [AV.ros.sizeOf_spec] at h
      refine .ros sz es es rfl (fun i x y hx hy => by rw [hx] at hy; cases hy; rfl) fun i x y j c d hx hy hc hd => ?_
      rw [hx] at hy; cases hy
      exact mem (Nat.lt_of_lt_of_le (List.sizeOf_lt_of_mem (List.mem_of_getElem? hx)) (by omega)) j c d hc hd
    | rop cs => simp only [AV.rop.sizeOf_spec] at h; exact .rop cs cs rfl (mem (by omega))
    | sl id sz i m c => exact .sl id id sz i m c c rfl (.inl rfl)
    | pt id sz i o => exact .pt id id sz i o rfl
    | fn f xs ys =>
      simp only [AV.fn.sizeOf_spec] at h
      exact .fn f xs ys xs ys rfl rfl (mem (by omega)) (mem (by omega))
    | ifc t v => simp only [AV.ifc.sizeOf_spec] at h; exact .ifc t v v (ih v (by omega))
    | roe sz => exact .roe sz
    | opt t v => simp only [AV.opt.sizeOf_spec] at h; exact .opt t v v (ih v (by omega))
theorem cv_closed {rho : Nat → Nat} {v : AV} (h : Cl v) : Cv rows Z rho v v := by
  induction h with
  | any => exact .any _
  | bool b => exact .bool b
  | int k m => exact .int k m
  | str s => exact .str s
  | nilp => exact .nilp
  | nils => exact .nils
  | nilf => exact .nilf
  | nili => exact .nili
  | nilm => exact .nilm
  | agg cs h ih => exact .agg cs cs rfl fun j c d hc hd => by rw [hc] at hd; cases hd; exact ih c (List.mem_of_getElem? hc)
  | tup cs h ih => exact .tup cs cs rfl fun j c d hc hd => by rw [hc] at hd; cases hd; exact ih c (List.mem_of_getElem? hc)
  | ros sz es h ih => exact .ros sz es es rfl (fun i x y hx hy => by rw [hx] at hy; cases hy; rfl) fun i x y j c d hx hy hc hd => by (rw [hx] at hy; cases hy; rw [hc] at hd; cases hd; exact ih x (List.mem_of_getElem? hx) c (List.mem_of_getElem? hc))
  | rop cs h ih => exact .rop cs cs rfl fun j c d hc hd => by rw [hc] at hd; cases hd; exact ih c (List.mem_of_getElem? hc)
  | fn f xs ys h1 h2 ih1 ih2 => exact .fn f xs ys xs ys rfl rfl (fun j c d hc hd => by rw [hc] at hd; cases hd; exact ih1 c (List.mem_of_getElem? hc)) (fun j c d hc hd => by rw [hc] at hd; cases hd; exact ih2 c (List.mem_of_getElem? hc))
  | ifc t v h ih => exact .ifc t v v ih
  | roe sz => exact .roe sz
  | opt t v h ih => exact .opt t v v ih
theorem cv_ros_self {rho : Nat → Nat} {sz : Nat} {es : List (List AV)} (h : ∀ x ∈ es, ∀ c ∈ x, Cl c) : Cv rows Z rho (.ros sz es) (.ros sz es) := cv_closed (.ros sz es h)
theorem bel_ros_cl {k sz : Nat} {es : List (List AV)} (h : ∀ x ∈ es, ∀ c ∈ x, Cl c) : Bel k (.ros sz es) := (Cl.ros sz es h).bel
theorem bel_cells {k : Nat} {es : List (List AV)} (h : ∀ x ∈ es, ∀ c ∈ x, Cl c) : ∀ x ∈ es, ∀ c ∈ x, Bel k c := fun x hx c hc => (h x hx c hc).bel
theorem all2_self {rho : Nat → Nat} {es : List (List AV)} (h : ∀ x ∈ es, ∀ c ∈ x, Cl c) : All2 (All2 (Cv rows Z rho)) es es := by
  refine all2_of rfl fun j c d hc hd => ?_
  rw [hc] at hd; cases hd
  refine all2_of rfl fun i x y hx hy => ?_
  rw [hx] at hy; cases hy
  exact cv_closed (h c (List.mem_of_getElem? hc) x (List.mem_of_getElem? hx))
theorem one_int {k : IntKind} {n : Int} : (AV.int k n).one = True := rfl
theorem one_bool {b : Bool} : (AV.bool b).one = True := rfl
theorem one_str {s : ByteArray} : (AV.str s).one = True := rfl
theorem one_nils : (AV.nils).one = True := rfl
theorem one_ros {sz : Nat} {es : List (List AV)} : (AV.ros sz es).one = True := rfl
theorem one_sl {id sz i n : Nat} {k : Option Nat} : (AV.sl id sz i n k).one = True := rfl
theorem cv_refl {v : AV} : Cv rows Z (fun i => i) v v = True := eq_true (cv_self v)
theorem cv_slR {id sz q i n : Nat} {k : Option Nat} {fs : List (List AV)} : (match look rows id with
    | some r => r.sz = sz ∧ q = sz ∧ i + n ≤ r.es.length ∧ (∀ y ∈ fs, y.length = sz) ∧ Z id = true ∧ All2 (All2 (Cv rows Z (fun i => i))) ((r.es.drop i).take n) fs
    | none => False) → Cv rows Z (fun i => i) (.sl id sz i n k) (.ros q fs) := by
  intro h
  split at h
  · rename_i r hr
    exact cv_frz hr h.2.2.2.2.1 h.1 h.2.1 h.2.2.1 h.2.2.2.1 h.2.2.2.2.2
  · exact h.elim
end

theorem cv_slE {rows : Rows} {Z : Nat → Bool} {id sz q i n : Nat} {k : Option Nat} {fs : List (List AV)} {r : Row} (hr : look rows id = some r) (hz : Z id = true) (h1 : r.sz = sz ∧ q = sz) (h2 : i + n ≤ r.es.length ∧ ∀ y ∈ fs, y.length = sz) (h3 : (r.es.drop i).take n = fs) :
    Cv rows Z (fun i => i) (.sl id sz i n k) (.ros q fs) := cv_frz hr hz h1.1 h1.2 h2.1 h2.2 (h3 ▸ All2.refl (fun l => All2.refl cv_self l) _)

theorem cv_slF {rows : Rows} {Z : Nat → Bool} {id sz q n : Nat} {k : Option Nat} {fs : List (List AV)} {r : Row} (hr : look rows id = some r) (hz : Z id = true) (h1 : r.sz = sz ∧ q = sz) (h2 : ∀ y ∈ fs, y.length = sz) (h3 : r.es = fs) (hn : n = fs.length) :
    Cv rows Z (fun i => i) (.sl id sz 0 n k) (.ros q fs) := by
  subst hn; subst h3
  exact cv_slE hr hz h1 ⟨by omega, h2⟩ (by rw [List.drop_zero, List.take_length])
theorem cv_slG {rows : Rows} {Z : Nat → Bool} {rho : Nat → Nat} {id sz q n : Nat} {k : Option Nat} {fs : List (List AV)} {r : Row} (hr : look rows id = some r) (hz : Z id = true) (h1 : r.sz = sz ∧ q = sz) (h2 : ∀ y ∈ fs, y.length = sz) (h3 : r.es = fs) (hn : n = fs.length) (hc : ∀ x ∈ fs, ∀ c ∈ x, Cl c) :
    Cv rows Z rho (.sl id sz 0 n k) (.ros q fs) := by
  subst hn; subst h3
  exact cv_frz hr hz h1.1 h1.2 (by omega) h2 (by rw [List.drop_zero, List.take_length]; exact all2_self hc)
theorem cv_ptE {rows : Rows} {Z : Nat → Bool} {rho : Nat → Nat} {id sz i o : Nat} {ds : List AV} {r : Row} (hr : look rows id = some r) (hz : Z id = true) (h1 : r.sz = sz) (h2 : decide (i < r.es.length) = true) (h3 : decide (o + ds.length ≤ sz) = true) (h4 : All2 (Cv rows Z rho) (((r.es.getD i []).drop o).take ds.length) ds) :
    Cv rows Z rho (.pt id sz i o) (.rop ds) := by
  refine .ptf id sz i o r ds hz hr h1 (of_decide_eq_true h2) (of_decide_eq_true h3) fun j c d hc hd => ?_
  have hj : j < ds.length := (List.getElem?_eq_some_iff.1 hd).1
  exact all2_get h4 j c d (by rw [List.getElem?_take, if_pos hj, List.getElem?_drop]; exact hc) hd

/-- The end of a function whose results' rows nobody writes any more. -/
def cvAll (rows : Rows) (e : Env) : Env → Prop
  | [] => True
  | (t, v) :: l => (Cv rows (fun _ => true) (fun i => i) (get e t) v ∧ Cl v) ∧ cvAll rows e l
theorem cvAll_mem {rows : Rows} {e : Env} : ∀ {l : Env}, cvAll rows e l → ∀ x ∈ l, Cv rows (fun _ => true) (fun i => i) (get e x.1) x.2 ∧ Cl x.2
  | [], _, x, hx => by cases hx
  | (t, v) :: l, h, x, hx => by
    rcases List.mem_cons.1 hx with rfl | hx
    · exact h.1
    · exact cvAll_mem h.2 x hx
theorem Cl.bel0 {v : AV} (h : Cl v) {k : Nat} : Bel k v := h.bel
theorem ret_frz {rv : List RV} {v : AV} {e e' : Env} {s : Store} (h0 : rvE rv v = some e') (h1 : cvAll s.rows e e') (h2 : rvsC e' ⟨0, []⟩ rv) (h3 : tupV (rv.map (rvV e' ⟨0, []⟩)) = v) (h4 : Cl v) : retQ 0 rv v .ret e s := by
  refine ⟨e', ⟨0, []⟩, Wk.cv (fun _ => true) (fun i => i) (Nat.zero_le _) (fun _ _ => rfl) (fun x hx => ?_) (fun q hq => by cases hq) (fun q hq => by cases hq), h2, h3, h4⟩
  have := cvAll_mem h1 x hx
  exact ⟨this.1, this.2.bel⟩
theorem end_frz {rv : List RV} {v : AV} {e e' : Env} {s : Store} (h0 : rvE rv v = some e') (h1 : cvAll s.rows e e') (h2 : rvsC e' ⟨0, []⟩ rv) (h3 : tupV (rv.map (rvV e' ⟨0, []⟩)) = v) (h4 : Cl v) : retQ 0 rv v .normal e s := ret_frz h0 h1 h2 h3 h4

/-! ### Lists of things of one shape -/
theorem getD_map {α : Type} {xs : List α} {enc : α → List AV} {k : Nat} {x : α} (h : xs[k]? = some x) : (xs.map enc).getD k [] = enc x := by
  simp [List.getD, List.getElem?_map, h]
theorem take_map_len {α β : Type} {f : α → β} {l : List α} : (l.map f).take l.length = l.map f := List.take_of_length_le (by simp)
theorem cl_map {α : Type} {enc : α → List AV} (h : ∀ x, ∀ c ∈ enc x, Cl c) {sz : Nat} {xs : List α} : Cl (.ros sz (xs.map enc)) := by
  refine .ros sz _ fun y hy c hc => ?_
  obtain ⟨x, _, rfl⟩ := List.mem_map.1 hy
  exact h x c hc
theorem cl_ints {k : IntKind} {xs : List Int} {sz : Nat} : Cl (.ros sz (xs.map fun n => [AV.int k n])) = True := eq_true (cl_map fun x c hc => by
  rw [List.mem_singleton] at hc; subst hc; exact .int _ _)
theorem bel_ints {k : IntKind} {xs : List Int} {sz m : Nat} : Bel m (.ros sz (xs.map fun n => [AV.int k n])) = True := eq_true ((cl_map fun x c hc => by
  rw [List.mem_singleton] at hc; subst hc; exact .int _ _ : Cl _).bel)

/-- A slice that grows: nil at first. -/
def accV (id sz : Nat) : List (List AV) → AV
  | [] => .nils
  | x :: l => .sl id sz 0 (l.length + 1) none
def accR (id sz : Nat) : List (List AV) → Rows
  | [] => []
  | x :: l => [(id, ⟨sz, x :: l⟩)]
theorem accV_snoc {id sz : Nat} {es : List (List AV)} {x : List AV} : accV id sz (es ++ [x]) = .sl id sz 0 (es.length + 1) none := by
  cases es <;> simp [accV]
theorem accR_snoc {id sz : Nat} {es : List (List AV)} {x : List AV} : accR id sz (es ++ [x]) = [(id, ⟨sz, es ++ [x]⟩)] := by
  cases es <;> simp [accR]

/-! ### States told otherwise, item by item -/
def envAll (rows : Rows) (Z : Nat → Bool) (rho : Nat → Nat) (n : Nat) (e : Env) : Env → Prop
  | [] => True
  | (t, v) :: l => (Cv rows Z rho (get e t) v ∧ Bel n v) ∧ envAll rows Z rho n e l
def cellsCv (rows : Rows) (Z : Nat → Bool) (rho : Nat → Nat) (n : Nat) (es fs : List (List AV)) : Prop := All2 (All2 (Cv rows Z rho)) es fs ∧ ∀ x ∈ fs, ∀ v ∈ x, Bel n v
def rowCv (rows : Rows) (Z : Nat → Bool) (rho : Nat → Nat) (n : Nat) : Option Row → Row → Prop
  | some r0, r => r.sz = r0.sz ∧ cellsCv rows Z rho n r0.es r.es
  | none, _ => False
def rowsAll (rows : Rows) (Z : Nat → Bool) (rho : Nat → Nat) (n : Nat) : Rows → Prop
  | [] => True
  | (id, r) :: l => (id < n ∧ Z (rho id) = false ∧ rowCv rows Z rho n (look rows (rho id)) r) ∧ rowsAll rows Z rho n l
theorem cellsCv_eq {rows : Rows} {Z : Nat → Bool} {rho : Nat → Nat} {n : Nat} {es fs : List (List AV)} (h : fs = es) (hc : ∀ x ∈ es, ∀ v ∈ x, Cl v) : cellsCv rows Z rho n es fs := by
  subst h; exact ⟨all2_self hc, bel_cells hc⟩
theorem envAll_mem {rows : Rows} {Z : Nat → Bool} {rho : Nat → Nat} {n : Nat} {e : Env} : ∀ {l : Env}, envAll rows Z rho n e l → ∀ x ∈ l, Cv rows Z rho (get e x.1) x.2 ∧ Bel n x.2
  | [], _, x, hx => by cases hx
  | (t, v) :: l, h, x, hx => by
    rcases List.mem_cons.1 hx with rfl | hx
    · exact h.1
    · exact envAll_mem h.2 x hx
theorem rowsAll_mem {rows : Rows} {Z : Nat → Bool} {rho : Nat → Nat} {n : Nat} : ∀ {l : Rows}, rowsAll rows Z rho n l → ∀ q ∈ l, q.1 < n ∧ Z (rho q.1) = false ∧ rowCv rows Z rho n (look rows (rho q.1)) q.2
  | [], _, x, hx => by cases hx
  | (t, v) :: l, h, x, hx => by
    rcases List.mem_cons.1 hx with rfl | hx
    · exact h.1
    · exact rowsAll_mem h.2 x hx
theorem Wk.ren {n0 : Nat} {e e' : Env} {s s' : Store} (Z : Nat → Bool) (rho : Nat → Nat) (hn : n0 ≤ s'.nx) (h0 : ∀ i, i < n0 → rho i = i) (he : envAll s.rows Z rho s'.nx e e') (hr : rowsAll s.rows Z rho s'.nx s'.rows)
    (hinj : ∀ q ∈ s'.rows, ∀ q' ∈ s'.rows, rho q.1 = rho q'.1 → q.1 = q'.1) : Wk n0 e s e' s' := by
  refine Wk.cv Z rho hn h0 (envAll_mem he) (fun q hq => ?_) hinj
  obtain ⟨h1, hz, h2⟩ := rowsAll_mem hr q hq
  refine ⟨h1, ?_⟩
  cases hl : look s.rows (rho q.1) with
  | none => rw [hl] at h2; exact h2.elim
  | some r => rw [hl] at h2; exact ⟨r, rfl, hz, h2.1, h2.2.1, h2.2.2⟩

/-! ### Empty slices, nil or not -/
def prodL : List (List AV) → List (List AV)
  | [] => [[]]
  | x :: l => x.flatMap fun a => (prodL l).map (a :: ·)
def ref0 : AV → List AV
  | .ros sz [] => [.nils, .roe sz]
  | v => [v]
def ref1 : AV → List AV
  | .agg cs => (prodL (cs.map ref0)).map .agg
  | v => ref0 v
section
variable {F : Nat → Prop} {w : World} {p : Place} {D : Nat → Prop}
theorem ref0_vr {v : AV} {u : Value} (h : VR F w p D v u) : ∃ v', v' ∈ ref0 v ∧ VR F w p D v' u := by
  by_cases hv : ∃ sz, v = .ros sz []
  · obtain ⟨sz, rfl⟩ := hv
    cases h with
    | rosNil => exact ⟨.nils, by simp [ref0], .nils⟩
    | rosEmp _ a cap => exact ⟨.roe sz, by simp [ref0], .roe sz a cap⟩
    | ros _ _ b o cap c t fz hb hF hcap hsz hr h => exact ⟨.roe sz, by simp [ref0], .roe sz _ cap⟩
  · refine ⟨v, ?_, h⟩
    unfold ref0
    split
    · rename_i sz
      exact absurd ⟨sz, rfl⟩ hv
    · simp
theorem prodL_vr {f : AV → List AV} (hf : ∀ v u, VR F w p D v u → ∃ v', v' ∈ f v ∧ VR F w p D v' u) : ∀ (cs : List AV) (us : List Value), (∀ (j : Nat) (v : AV), cs[j]? = some v → VR F w p D v (us.getD j undef)) →
    ∃ ds, ds ∈ prodL (cs.map f) ∧ ds.length = cs.length ∧ ∀ (j : Nat) (v : AV), ds[j]? = some v → VR F w p D v (us.getD j undef)
  | [], us, h => ⟨[], by simp [prodL], rfl, by simp⟩
  | c :: cs, us, h => by
    obtain ⟨d, hd, hv⟩ := hf c _ (h 0 c rfl)
    obtain ⟨ds, h1, h2, h3⟩ := prodL_vr hf cs us.tail fun j v hj => by
      have := h (j + 1) v (by simpa using hj)
      cases us with
      | nil => simpa using this
      | cons u us => simpa using this
    refine ⟨d :: ds, ?_, by simp [h2], fun j v hj => ?_⟩
    · simp only [List.map_cons, prodL, List.mem_flatMap, List.mem_map]
      exact ⟨d, hd, ds, h1, rfl⟩
    · cases j with
      | zero => simp at hj; subst hj; exact hv
      | succ j =>
        have := h3 j v (by simpa using hj)
        cases us with
        | nil => simpa using this
        | cons u us => simpa using this
theorem ref1_vr {v : AV} {u : Value} (h : VR F w p D v u) : ∃ v', v' ∈ ref1 v ∧ VR F w p D v' u := by
  by_cases hv : ∃ cs, v = .agg cs
  · obtain ⟨cs, rfl⟩ := hv
    cases h with
    | agg _ us hs hh =>
      obtain ⟨ds, h1, h2, h3⟩ := prodL_vr (fun v u => ref0_vr) cs us.toList fun j v hj => by
        have := hh j v hj
        rw [Array.getD_eq_getD_getElem?] at this
        rw [List.getD_eq_getElem?_getD]
        simpa using this
      refine ⟨.agg ds, List.mem_map.2 ⟨ds, h1, rfl⟩, .agg ds us (by rw [hs, h2]) fun j v hj => ?_⟩
      have := h3 j v hj
      rw [List.getD_eq_getElem?_getD] at this
      rw [Array.getD_eq_getD_getElem?]
      simpa using this
  · obtain ⟨v', h1, h2⟩ := ref0_vr h
    refine ⟨v', ?_, h2⟩
    unfold ref1
    split
    · rename_i cs
      exact absurd ⟨cs, rfl⟩ hv
    · exact h1
theorem cargs_ref {xs : List AV} {args : Array Value} (h : CArgs F w xs args) : ∃ ys, ys ∈ prodL (xs.map ref1) ∧ CArgs F w ys args := by
  obtain ⟨ds, h1, h2, h3⟩ := prodL_vr (fun v u => ref1_vr) xs args.toList fun j v hj => by
    have := h.2 j v hj
    rw [Array.getD_eq_getD_getElem?] at this
    rw [List.getD_eq_getElem?_getD]
    simpa using this
  refine ⟨ds, h1, by rw [h2]; exact h.1, fun j v hj => ?_⟩
  have := h3 j v hj
  rw [List.getD_eq_getElem?_getD] at this
  rw [Array.getD_eq_getD_getElem?]
  simpa using this
/-- What holds for each empty slice, nil or not. -/
theorem PCall.emps {P : Program} {f : FuncId} {xs : List AV} {v : AV} (h : ∀ ys, ys ∈ prodL (xs.map ref1) → PCall P f ys v) (hne : ∃ ys, ys ∈ prodL (xs.map ref1)) : PCall P f xs v := by
  obtain ⟨y0, hy0⟩ := hne
  refine ⟨(h y0 hy0).enter, fun F w args ho ha => ?_⟩
  obtain ⟨ys, h1, h2⟩ := cargs_ref ha
  exact (h ys h1).run F w args ho h2

/-- y is told by x too. -/
inductive Ge : AV → AV → Prop
  | refl (v : AV) : Ge v v
  | nil (sz : Nat) : Ge .nils (.ros sz [])
  | roe (sz : Nat) : Ge (.roe sz) (.ros sz [])
  | any (v : AV) : Ge v .any
  | agg (cs ds : List AV) (hl : ds.length = cs.length) (h : ∀ (j : Nat) (c d : AV), cs[j]? = some c → ds[j]? = some d → Ge c d) : Ge (.agg cs) (.agg ds)
theorem ge_vr {y x : AV} (h : Ge y x) : ∀ {u : Value}, VR F w p D y u → VR F w p D x u := by
  induction h with
  | refl v => intro u h; exact h
  | nil sz => intro u h; cases h; exact .rosNil sz
  | roe sz => intro u h; cases h with | roe _ a cap => exact .rosEmp sz a cap
  | any v => intro u h; exact .any u
  | agg cs ds hl hh ih =>
    intro u h
    cases h with | agg _ us h1 h2 =>
    refine .agg ds us (by rw [hl, h1]) fun j d hd => ?_
    have hj : j < cs.length := by rw [← hl]; exact (List.getElem?_eq_some_iff.1 hd).1
    exact ih j _ d (List.getElem?_eq_getElem hj) hd (h2 j _ (List.getElem?_eq_getElem hj))
theorem PCall.weak {P : Program} {f : FuncId} {xs ys : List AV} {v : AV} (h : PCall P f xs v) (hw : All2 Ge ys xs) : PCall P f ys v := by
  refine ⟨h.enter, fun F w args ho ha => h.run F w args ho ⟨by rw [all2_len hw]; exact ha.1, fun j x hx => ?_⟩⟩
  have hj : j < ys.length := by rw [← all2_len hw]; exact (List.getElem?_eq_some_iff.1 hx).1
  exact ge_vr (all2_get hw j _ x (List.getElem?_eq_getElem hj) hx) (ha.2 j _ (List.getElem?_eq_getElem hj))
end
/-- A slice of these elements, that nobody writes; empty: nil or not. -/
def isSl (sz : Nat) (v : AV) : List (List AV) → Prop
  | [] => v = .nils ∨ v = .roe sz
  | x :: l => v = .ros sz (x :: l)
theorem isSl_ge {sz : Nat} {v : AV} {es : List (List AV)} (h : isSl sz v es) : Ge v (.ros sz es) := by
  cases es with
  | nil => rcases h with rfl | rfl; exact .nil sz; exact .roe sz
  | cons x l => rw [h]; exact .refl _
theorem ge_agg {cs ds : List AV} (h : All2 Ge cs ds) : Ge (.agg cs) (.agg ds) := .agg cs ds (all2_len h) (all2_get h)
theorem isSl_ref {sz : Nat} {v : AV} {es : List (List AV)} (h : v ∈ ref0 (.ros sz es)) : isSl sz v es := by
  cases es with
  | nil => simpa [ref0, isSl] using h
  | cons x l => simpa [ref0, isSl] using h

theorem look_lt {rows : Rows} {m : Nat} (h : rows.all (fun q => decide (q.1 < m)) = true) : ∀ id r, look rows id = some r → id < m := fun id r hl => by
  simpa using List.all_eq_true.1 h _ (look_mem hl)
theorem all_accR {id sz m : Nat} {es : List (List AV)} (h : id < m) : (accR id sz es).all (fun q => decide (q.1 < m)) = true := by cases es <;> simp [accR, h]

/-! ### Calls that may panic -/
theorem outQ_pan {rv : List RV} {o : AO} {v : AV} {e : Env} {s : Store} (h : o = .pan v) (hc : Cl v) : outQ 0 rv o ⟨0, []⟩ (.pan v) e s :=
  ⟨[], Wk.to (Nat.le_refl _) (Nat.zero_le _) (by simp) (by simp), h, hc⟩
theorem outQ_unit {o : AO} {e : Env} {s : Store} (h : o = .ret (.tup [])) : outQ 0 [] o ⟨0, []⟩ .ret e s :=
  ⟨[], Wk.to (Nat.le_refl _) (Nat.zero_le _) (by simp) (by simp), trivial, h⟩
theorem outQ_unitN {o : AO} {e : Env} {s : Store} (h : o = .ret (.tup [])) : outQ 0 [] o ⟨0, []⟩ .normal e s := outQ_unit h
theorem outQ_frz {rv : List RV} {v : AV} {e e' : Env} {s : Store} (h0 : rvE rv v = some e') (h1 : cvAll s.rows e e') (h2 : rvsC e' ⟨0, []⟩ rv) (h3 : tupV (rv.map (rvV e' ⟨0, []⟩)) = v) : outQ 0 rv (.ret v) ⟨0, []⟩ .ret e s := by
  refine ⟨e', Wk.cv (fun _ => true) (fun i => i) (Nat.zero_le _) (fun _ _ => rfl) (fun x hx => ?_) (fun q hq => by cases hq) (fun q hq => by cases hq), h2, by rw [h3]⟩
  have := cvAll_mem h1 x hx
  exact ⟨this.1, this.2.bel⟩
def outR (b : Bool) (v u : AV) : AO := bif b then .ret v else .pan u
theorem outK_split {K Kp : AV → Store → Prop} {b : Bool} {v u : AV} {s : Store} (h1 : b = true → K v s) (h2 : b = false → Kp u s) : outK K Kp (outR b v u) s := by
  cases b with
  | true => exact h1 rfl
  | false => exact h2 rfl

theorem outR_cl {b : Bool} {v u : AV} (h1 : Cl v) (h2 : Cl u) : outCl (outR b v u) := by cases b <;> assumption
end Go.Proofs.Ytffiicopifmmfaa.Ai
