/-
  States that are forgotten in part; values by their rows. Plain facts, no condition.
-/
import Derived.Test.YtcgodcpgdnfjpaaAiQ
namespace Go.Proofs.Ytcgodcpgdnfjpaa.Ai
set_option linter.unusedSimpArgs false
set_option linter.unusedVariables false
set_option linter.unusedVariables false

/-- Values whose rows are below c. -/
inductive Bel (k : Nat) : AV → Prop
  | any : Bel k .any
  | bool (b : Bool) : Bel k (.bool b)
  | int (kk : IntKind) (n : Int) : Bel k (.int kk n)
  | str (s : ByteArray) : Bel k (.str s)
  | nilp : Bel k .nilp
  | nils : Bel k .nils
  | nilf : Bel k .nilf
  | nili : Bel k .nili
  | nilm : Bel k .nilm
  | agg (cs : List AV) (h : ∀ c ∈ cs, Bel k c) : Bel k (.agg cs)
  | tup (cs : List AV) (h : ∀ c ∈ cs, Bel k c) : Bel k (.tup cs)
  | ros (sz : Nat) (es : List (List AV)) (h : ∀ x ∈ es, ∀ c ∈ x, Bel k c) : Bel k (.ros sz es)
  | rop (cs : List AV) (h : ∀ c ∈ cs, Bel k c) : Bel k (.rop cs)
  | sl (id sz i n : Nat) (c : Option Nat) (h : id < k) : Bel k (.sl id sz i n c)
  | pt (id sz i o : Nat) (h : id < k) : Bel k (.pt id sz i o)
  | fn (f : Fn) (xs ys : List AV) (h1 : ∀ c ∈ xs, Bel k c) (h2 : ∀ c ∈ ys, Bel k c) : Bel k (.fn f xs ys)
  | ifc (t : TypeId) (v : AV) (h : Bel k v) : Bel k (.ifc t v)
  | roe (sz : Nat) : Bel k (.roe sz)
  | opt (t : Bool) (v : AV) (h : Bel k v) : Bel k (.opt t v)

section
variable {k : Nat}
theorem bel_any : Bel k .any = True := eq_true .any
theorem bel_bool {b : Bool} : Bel k (.bool b) = True := eq_true (.bool b)
theorem bel_int {kk : IntKind} {n : Int} : Bel k (.int kk n) = True := eq_true (.int kk n)
theorem bel_str {s : ByteArray} : Bel k (.str s) = True := eq_true (.str s)
theorem bel_nilp : Bel k .nilp = True := eq_true .nilp
theorem bel_nils : Bel k .nils = True := eq_true .nils
theorem bel_nilf : Bel k .nilf = True := eq_true .nilf
theorem bel_nili : Bel k .nili = True := eq_true .nili
theorem bel_nilm : Bel k .nilm = True := eq_true .nilm
theorem bel_roe {sz : Nat} : Bel k (.roe sz) = True := eq_true (.roe sz)
theorem bel_agg {cs : List AV} : Bel k (.agg cs) = ∀ c ∈ cs, Bel k c := propext ⟨fun h => by cases h; assumption, .agg cs⟩
theorem bel_tup {cs : List AV} : Bel k (.tup cs) = ∀ c ∈ cs, Bel k c := propext ⟨fun h => by cases h; assumption, .tup cs⟩
theorem bel_ros {sz : Nat} {es : List (List AV)} : Bel k (.ros sz es) = ∀ x ∈ es, ∀ c ∈ x, Bel k c := propext ⟨fun h => by cases h; assumption, .ros sz es⟩
theorem bel_rop {cs : List AV} : Bel k (.rop cs) = ∀ c ∈ cs, Bel k c := propext ⟨fun h => by cases h; assumption, .rop cs⟩
theorem bel_sl {id sz i n : Nat} {c : Option Nat} : Bel k (.sl id sz i n c) = (id < k) := propext ⟨fun h => by cases h; assumption, .sl id sz i n c⟩
theorem bel_pt {id sz i o : Nat} : Bel k (.pt id sz i o) = (id < k) := propext ⟨fun h => by cases h; assumption, .pt id sz i o⟩
theorem bel_opt {t : Bool} {v : AV} : Bel k (.opt t v) = Bel k v := propext ⟨fun h => by cases h; assumption, .opt t v⟩
theorem bel_ifc {t : TypeId} {v : AV} : Bel k (.ifc t v) = Bel k v := propext ⟨fun h => by cases h; assumption, .ifc t v⟩
theorem bel_fn {f : Fn} {xs ys : List AV} : Bel k (.fn f xs ys) = ((∀ c ∈ xs, Bel k c) ∧ ∀ c ∈ ys, Bel k c) := propext ⟨fun h => by cases h; constructor <;> assumption, fun h => .fn f xs ys h.1 h.2⟩
theorem cl_any : Cl .any = True := eq_true .any
theorem cl_bool {b : Bool} : Cl (.bool b) = True := eq_true (.bool b)
theorem cl_int {kk : IntKind} {n : Int} : Cl (.int kk n) = True := eq_true (.int kk n)
theorem cl_str {s : ByteArray} : Cl (.str s) = True := eq_true (.str s)
theorem cl_nilp : Cl .nilp = True := eq_true .nilp
theorem cl_nils : Cl .nils = True := eq_true .nils
theorem cl_nilf : Cl .nilf = True := eq_true .nilf
theorem cl_nili : Cl .nili = True := eq_true .nili
theorem cl_nilm : Cl .nilm = True := eq_true .nilm
theorem cl_roe {sz : Nat} : Cl (.roe sz) = True := eq_true (.roe sz)
theorem cl_agg {cs : List AV} : Cl (.agg cs) = ∀ c ∈ cs, Cl c := propext ⟨fun h => by cases h; assumption, .agg cs⟩
theorem cl_tup {cs : List AV} : Cl (.tup cs) = ∀ c ∈ cs, Cl c := propext ⟨fun h => by cases h; assumption, .tup cs⟩
theorem cl_ros {sz : Nat} {es : List (List AV)} : Cl (.ros sz es) = ∀ x ∈ es, ∀ c ∈ x, Cl c := propext ⟨fun h => by cases h; assumption, .ros sz es⟩
theorem cl_rop {cs : List AV} : Cl (.rop cs) = ∀ c ∈ cs, Cl c := propext ⟨fun h => by cases h; assumption, .rop cs⟩
theorem cl_opt {t : Bool} {v : AV} : Cl (.opt t v) = Cl v := propext ⟨fun h => by cases h; assumption, .opt t v⟩
theorem cl_ifc {t : TypeId} {v : AV} : Cl (.ifc t v) = Cl v := propext ⟨fun h => by cases h; assumption, .ifc t v⟩
theorem cl_fn {f : Fn} {xs ys : List AV} : Cl (.fn f xs ys) = ((∀ c ∈ xs, Cl c) ∧ ∀ c ∈ ys, Cl c) := propext ⟨fun h => by cases h; constructor <;> assumption, fun h => .fn f xs ys h.1 h.2⟩
end

theorem VR.bel {F : Nat → Prop} {w : World} {p : Place} {D D' : Nat → Prop} {k : Nat} {v : AV} {u : Value} (h : VR F w p D v u) (hb : Bel k v) (hD : ∀ i, i < k → D' i) : VR F w p D' v u := by
  induction hb generalizing u with
  | any => exact .any _
  | bool b => cases h; exact .bool b
  | int kk n => cases h; exact .int kk n
  | str s => cases h; exact .str s
  | nilp => cases h; exact .nilp
  | nils => cases h; exact .nils
  | nilf => cases h; exact .nilf
  | nili => cases h; exact .nili
  | nilm => cases h; exact .nilm
  | agg cs hc ih => cases h with | agg _ us hs h => exact .agg cs us hs fun j v hj => ih v (List.mem_of_getElem? hj) (h j v hj)
  | tup cs hc ih => cases h with | tup _ us hs h => exact .tup cs us hs fun j v hj => ih v (List.mem_of_getElem? hj) (h j v hj)
  | ros sz es hc ih =>
    cases h with
    | rosNil => exact .rosNil sz
    | rosEmp _ a cap => exact .rosEmp sz a cap
    | ros _ _ b o cap c t fz hb hF hcap hsz hr h =>
      exact .ros sz es b o cap c t fz hb hF hcap hsz hr fun i x j v hx hj => ih x (List.mem_of_getElem? hx) v (List.mem_of_getElem? hj) (h i x j v hx hj)
  | rop cs hc ih => cases h with | rop _ b o c t fz hb hF hr h => exact .rop cs b o c t fz hb hF hr fun j v hj => ih v (List.mem_of_getElem? hj) (h j v hj)
  | sl id sz i n c hid => cases h with | sl _ _ _ _ _ a cap _ hn hk ha => exact .sl id sz i n c a cap (hD _ hid) hn hk ha
  | pt id sz i o hid => cases h with | pt _ _ _ _ _ => exact .pt id sz i o (hD _ hid)
  | fn f xs ys h1 h2 ih1 ih2 =>
    cases h with | fn _ _ _ us vs g1 g2 g3 g4 =>
    exact .fn f xs ys us vs g1 g2 (fun j v hj => ih1 v (List.mem_of_getElem? hj) (g3 j v hj)) (fun j v hj => ih2 v (List.mem_of_getElem? hj) (g4 j v hj))
  | ifc t v hc ih => cases h with | ifc _ _ u h => exact .ifc t v u (ih h)
  | roe sz => cases h with | roe _ a cap => exact .roe sz a cap
  | opt t v hc ih => cases h with | opt _ _ _ h1 h2 => exact .opt t v _ (fun h => ih (h1 h)) h2

theorem get_mem {e : Env} {t : Nat} : get e t = .any ∨ ∃ x ∈ e, x.1 = t ∧ get e t = x.2 := by
  induction e with
  | nil => exact .inl rfl
  | cons x l ih =>
    obtain ⟨k, v⟩ := x
    simp only [get]
    by_cases h : k = t
    · subst h; right; exact ⟨(k, v), by simp, rfl, by simp⟩
    · simp only [beq_false_of_ne h, cond_false]
      exact ih.imp (fun h => h) fun ⟨x, h1, h2, h3⟩ => ⟨x, by simp [h1], h2, h3⟩

theorem look_mem {rows : Rows} {id : Nat} {r : Row} (h : look rows id = some r) : (id, r) ∈ rows := by
  induction rows with
  | nil => cases h
  | cons x l ih =>
    obtain ⟨k, q⟩ := x
    rw [look_cons] at h
    split at h
    · rename_i hid; cases h; subst hid; simp
    · exact List.mem_cons_of_mem _ (ih h)

/-- The state with less of it. -/
theorem Wk.to {n0 : Nat} {e e' : Env} {s : Store} {c : Nat} {rows : Rows} (hc : n0 ≤ c) (hs : c ≤ s.nx) (he : ∀ x ∈ e', get e x.1 = x.2 ∧ Bel c x.2)
    (hr : ∀ q ∈ rows, look s.rows q.1 = some q.2 ∧ q.1 < c ∧ ∀ x ∈ q.2.es, ∀ v ∈ x, Bel c v) : Wk n0 e s e' ⟨c, rows⟩ := by
  intro N F w p a hn hrel
  have hl : ∀ id r, look rows id = some r → look s.rows id = some r ∧ id < c ∧ ∀ x ∈ r.es, ∀ v ∈ x, Bel c v := fun id r h => hr (id, r) (look_mem h)
  refine ⟨F, p, ⟨⟨hrel.env.size, fun t => ?_⟩, ⟨fun id r h => ?_, fun id id' r r' h h' => hrel.sto.apart id id' r r' (hl _ _ h).1 (hl _ _ h').1, hrel.sto.old⟩⟩, ?_⟩
  · rcases get_mem (e := e') (t := t) with h | ⟨x, hx, rfl, h⟩
    · rw [h]; exact .any _
    · rw [h]
      obtain ⟨h1, h2⟩ := he x hx
      have := hrel.env.val x.1
      rw [h1] at this
      exact this.bel h2 (fun i hi => hi)
  · obtain ⟨h1, h2, h3⟩ := hl id r h
    obtain ⟨g1, g2, ⟨cc, t, fz, hb, hf, hrr, hv⟩, hz⟩ := hrel.sto.row id r h1
    exact ⟨h2, g2, ⟨cc, t, fz, hb, hf, hrr, fun i x j v hx hj => (hv i x j v hx hj).bel (h3 x (List.mem_of_getElem? hx) v (List.mem_of_getElem? hj)) (fun i hi => hi)⟩, hz⟩
  · refine ⟨rfl, rfl, rfl, Nat.le_refl _, fun _ _ _ => rfl, fun b c t fz hb => ⟨c, t, fz, hb, rfl⟩, fun _ h => h, fun _ h => .inl h, ?_, fun _ _ => rfl, hc⟩
    rintro b ⟨id, r, h, rfl⟩
    exact .inr ⟨id, r, (hl id r h).1, rfl⟩

theorem ret_now {n0 : Nat} {rv : List RV} {v : AV} {e : Env} {s : Store} (h1 : rvsC e s rv) (h2 : tupV (rv.map (rvV e s)) = v) (h3 : Cl v) : retQ n0 rv v .ret e s := ⟨e, s, .refl, h1, h2, h3⟩
theorem end_now {n0 : Nat} {rv : List RV} {v : AV} {e : Env} {s : Store} (h1 : rvsC e s rv) (h2 : tupV (rv.map (rvV e s)) = v) (h3 : Cl v) : retQ n0 rv v .normal e s := ⟨e, s, .refl, h1, h2, h3⟩

section
variable {P : Program} {n0 : Nat} {Q : Exit → Env → Store → Prop} {e : Env} {s : Store}
theorem w_skip : rwp P n0 .skip Q e s = Q .normal e s := rfl
theorem w_ret : rwp P n0 .ret Q e s = Q .ret e s := rfl
theorem w_exit {id : Nat} : rwp P n0 (.exit id) Q e s = Q (.exit id) e s := rfl
theorem w_seq {a b : RQ} : rwp P n0 (.seq a b) Q e s = rwp P n0 a (thn (rwp P n0 b Q) Q) e s := rfl
theorem w_cond {c : Opd} {a b : RQ} : rwp P n0 (.cond c a b) Q e s = condR e c (rwp P n0 a Q e s) (rwp P n0 b Q e s) := rfl
theorem w_block {id : Nat} {b : RQ} : rwp P n0 (.block id b) Q e s = rwp P n0 b (blk id Q) e s := rfl
theorem w_reg {ops : List RP} : rwp P n0 (.reg ops) Q e s = seqR P ops (fun e s => Q .normal e s) e s := rfl
theorem w_drw {ops tail : List RP} : rwp P n0 (.drw ops tail) Q e s = dR P s.rows s.nx ops (fun e s => seqR P tail (fun e s => Q .normal e s) e s) s.rows e := rfl

/-- A loop. -/
theorem w_loop {b : RQ} (I : Env → Store → Prop) (μ : Env → Store → Nat) (h0 : ∃ e' s', Wk n0 e s e' s' ∧ I e' s')
    (h : ∀ e s, I e s → rwp P n0 b (thn (fun e' s' => ∃ e'' s'', Wk n0 e' s' e'' s'' ∧ I e'' s'' ∧ μ e'' s'' < μ e s) Q) e s) : rwp P n0 (.loop b) Q e s := ⟨I, μ, h0, h⟩

/-- A cond, as a goal for each side. -/
theorem condR_bool {c : Opd} {t : Bool} {A B : Prop} (h : sv e c = .bool t) (h0 : lv e c) (ha : t = true → A) (hb : t = false → B) : condR e c A B := by
  refine ⟨h0, ?_⟩
  rw [h]; exact ⟨ha, hb⟩
end

/-- A list of numbers, as a slice that nobody writes. -/
def ints (k : IntKind) (xs : List Int) : AV := .ros 1 (xs.map fun n => [.int k n])
theorem ibeq (a b : Int) : (a == b) = decide (a = b) := by rw [Bool.eq_iff_iff]; simp
theorem ibne (a b : Int) : (a != b) = !decide (a = b) := by simp [bne, ibeq]
end Go.Proofs.Ytcgodcpgdnfjpaa.Ai
