/-
  The runs once more, every continuation a named function (so that none is entered before its turn). Plain facts, no condition.
-/
import Derived.Test.YtggmkfagcjdifaaDoorAiY
import Derived.Test.YtggmkfagcjdifaaDoorAiW
namespace Go.Proofs.YtggmkfagcjdifaaDoor.Ai
set_option linter.unusedSimpArgs false
set_option linter.unusedVariables false
set_option linter.unnecessarySimpa false
set_option linter.unusedSectionVars false
set_option linter.unusedVariables false

def seqX (P : Program) (l : List RP) (Q : AX → Env → Store → Prop) (e : Env) (s : Store) : Prop := seqR P l (fun e s => Q .normal e s) (fun v e s => Q (.pan v) e s) e s
def kS (P : Program) (l : List RP) (Q : AX → Env → Store → Prop) (e : Env) (d : Option Nat) (v : AV) (s : Store) : Prop := seqX P l Q (put e d v) s
def kP (Q : AX → Env → Store → Prop) (e : Env) (v : AV) (s : Store) : Prop := Q (.pan v) e s
def kG (P : Program) (l : List RP) (Q : AX → Env → Store → Prop) (e : Env) (s : Store) (d : Option Nat) (t : Bool) (v : AV) : Prop := seqX P l Q (put e d (.opt t v)) (next s none)
def gX (P : Program) (l : List RP) (Q : AX → Env → Store → Prop) (e : Env) (s : Store) (d : Option Nat) (im : Bool) (op : ROp) : Bool → Option Bool → Prop
  | true, some t => opG P t op e s (kG P l Q e s d t)
  | false, some true => opR P im op e s (kS P l Q e d) (kP Q e)
  | false, some false => seqX P l Q (put e d (.opt false .any)) s
  | _, none => False

section
variable {P : Program} {n0 : Nat} {Q : AX → Env → Store → Prop} {e : Env} {s : Store} {l : List RP} {dst : Option Nat} {im : Bool} {op : ROp}
theorem seqX_nil : seqX P [] Q e s = Q .normal e s := rfl
theorem seqX_none : seqX P (⟨dst, none, im, op⟩ :: l) Q e s = opR P im op e s (kS P l Q e dst) (kP Q e) := rfl
theorem seqX_some {g : Nat} {b : Bool} : seqX P (⟨dst, some (g, b), im, op⟩ :: l) Q e s = gX P l Q e s dst im op (norow im op) (gv e g b) := by
  simp only [seqX, seqR]
  cases gv e g b with
  | none => cases norow im op <;> rfl
  | some t =>
    cases norow im op with
    | true => rfl
    | false =>
      cases t with
      | true => exact propext ⟨fun h => h.1 rfl, fun h => ⟨fun _ => h, nofun⟩⟩
      | false => exact propext ⟨fun h => h.2 rfl, fun h => ⟨nofun, fun _ => h⟩⟩

def dX (P : Program) (rows0 : Rows) (nx0 : Nat) (l : List (Bool × RP)) (k : Nat) (cur : Rows) (tg fr : List Nat) (tail : List RP) (Q : AX → Env → Store → Prop) (e : Env) : Prop :=
  dR P rows0 nx0 l k cur tg fr (fun e s => seqR P tail (fun e s => Q .normal e s) (fun v e s => Q (.pan v) e s) e s) e
def kD (P : Program) (rows0 : Rows) (nx0 : Nat) (l : List (Bool × RP)) (k : Nat) (cur : Rows) (tg fr : List Nat) (tail : List RP) (Q : AX → Env → Store → Prop) (e : Env) (fl : Bool) (op : ROp) (d : Option Nat) (m : Nat) (new : Rows) (v : AV) : Prop :=
  dX P rows0 nx0 l (k + m) (new ++ cur) tg (frs e fl op fr) tail Q (put e d v)
def kH (P : Program) (rows0 : Rows) (nx0 : Nat) (l : List (Bool × RP)) (k : Nat) (cur : Rows) (tg fr : List Nat) (tail : List RP) (Q : AX → Env → Store → Prop) (e : Env) (d : Option Nat) (t : Bool) (v : AV) : Prop :=
  dX P rows0 nx0 l (k + 1) cur tg fr tail Q (put e d (.opt t v))
def hX (P : Program) (rows0 : Rows) (nx0 : Nat) (l : List (Bool × RP)) (k : Nat) (cur : Rows) (tg fr : List Nat) (tail : List RP) (Q : AX → Env → Store → Prop) (e : Env) (fl : Bool) (op : ROp) (d : Option Nat) : Bool → Option Bool → Prop
  | true, some t => opG P t op e ⟨k, vis rows0 nx0 cur tg e fl op⟩ (kH P rows0 nx0 l k cur tg (frs e fl op fr) tail Q e d t)
  | _, _ => False

variable {rows0 cur : Rows} {nx0 k : Nat} {ld : List (Bool × RP)} {tg fr : List Nat} {tail : List RP} {fl : Bool}
theorem dX_nil : dX P rows0 nx0 [] k cur tg fr tail Q e = seqX P tail Q e ⟨k, cur⟩ := rfl
theorem dX_st {sz : Nat} {a x : Opd} : dX P rows0 nx0 ((fl, ⟨dst, none, im, .st sz a x⟩) :: ld) k cur tg fr tail Q e =
    (lv e a ∧ lv e x ∧ stC cur sz (sv e a) (sv e x) ∧ tgt (sv e a) < k ∧ fr.contains (tgt (sv e a)) = false ∧ dX P rows0 nx0 ld (k + 1) (stR cur (sv e a) (sv e x)) (tgt (sv e a) :: tg) fr tail Q (put e dst .any)) := rfl
theorem dX_none (h : isSt op = false) : dX P rows0 nx0 ((fl, ⟨dst, none, im, op⟩) :: ld) k cur tg fr tail Q e = opD P im op e (vis rows0 nx0 cur tg e fl op) k (kD P rows0 nx0 ld k cur tg fr tail Q e fl op dst) := by
  cases op <;> first | rfl | cases h
theorem dX_some {g : Nat} {b : Bool} : dX P rows0 nx0 ((fl, ⟨dst, some (g, b), im, op⟩) :: ld) k cur tg fr tail Q e = hX P rows0 nx0 ld k cur tg fr tail Q e fl op dst (norow im op) (gv e g b) := by
  simp only [dX, dR]
  cases gv e g b with
  | none => cases norow im op <;> rfl
  | some t => cases norow im op <;> rfl

def brX (P : Program) (n0 : Nat) (a b : RQ) (Q : AX → Env → Store → Prop) (e : Env) (s : Store) : AV → Prop
  | .bool true => rwp P n0 a Q e s
  | .bool false => rwp P n0 b Q e s
  | _ => False
theorem kD_0 {new : Rows} {v : AV} : kD P rows0 nx0 ld k cur tg fr tail Q e fl op dst 0 new v = dX P rows0 nx0 ld (k + 0) (new ++ cur) tg (frs e fl op fr) tail Q (put e dst v) := rfl
theorem kD_1 {new : Rows} {v : AV} : kD P rows0 nx0 ld k cur tg fr tail Q e fl op dst 1 new v = dX P rows0 nx0 ld (k + 1) (new ++ cur) tg (frs e fl op fr) tail Q (put e dst v) := rfl
theorem brX_true {a b : RQ} : brX P n0 a b Q e s (.bool true) = rwp P n0 a Q e s := rfl
theorem brX_false {a b : RQ} : brX P n0 a b Q e s (.bool false) = rwp P n0 b Q e s := rfl
theorem x_reg {ops : List RP} : rwp P n0 (.reg ops) Q e s = seqX P ops Q e s := rfl
theorem x_drw {ops : List (Bool × RP)} : rwp P n0 (.drw ops tail) Q e s = dX P s.rows s.nx ops s.nx s.rows [] [] tail Q e := rfl
theorem x_cond {c : Opd} {a b : RQ} : rwp P n0 (.cond c a b) Q e s = (lv e c ∧ brX P n0 a b Q e s (sv e c)) := by
  simp only [rwp, condR]
  refine propext (and_congr_right fun _ => ?_)
  cases sv e c with
  | bool t => cases t with
    | true => exact ⟨fun h => h.1 rfl, fun h => ⟨fun _ => h, nofun⟩⟩
    | false => exact ⟨fun h => h.2 rfl, fun h => ⟨nofun, fun _ => h⟩⟩
  | _ => exact Iff.rfl
theorem gX_1 {d : Option Nat} : gX P l Q e s d im op true (some true) = opG P true op e s (kG P l Q e s d true) := rfl
theorem gX_2 {d : Option Nat} : gX P l Q e s d im op true (some false) = opG P false op e s (kG P l Q e s d false) := rfl
theorem gX_3 {d : Option Nat} : gX P l Q e s d im op false (some true) = opR P im op e s (kS P l Q e d) (kP Q e) := rfl
theorem gX_4 {d : Option Nat} : gX P l Q e s d im op false (some false) = seqX P l Q (put e d (.opt false .any)) s := rfl
theorem gX_split {d : Option Nat} {nr t : Bool} (h1 : t = true → gX P l Q e s d im op nr (some true)) (h2 : t = false → gX P l Q e s d im op nr (some false)) : gX P l Q e s d im op nr (some t) := by
  cases t with
  | true => exact h1 rfl
  | false => exact h2 rfl
theorem hX_1 {d : Option Nat} : hX P rows0 nx0 ld k cur tg fr tail Q e fl op d true (some true) = opG P true op e ⟨k, vis rows0 nx0 cur tg e fl op⟩ (kH P rows0 nx0 ld k cur tg (frs e fl op fr) tail Q e d true) := rfl
theorem hX_2 {d : Option Nat} : hX P rows0 nx0 ld k cur tg fr tail Q e fl op d true (some false) = opG P false op e ⟨k, vis rows0 nx0 cur tg e fl op⟩ (kH P rows0 nx0 ld k cur tg (frs e fl op fr) tail Q e d false) := rfl
theorem hX_split {d : Option Nat} {t : Bool} (h1 : t = true → hX P rows0 nx0 ld k cur tg fr tail Q e fl op d true (some true)) (h2 : t = false → hX P rows0 nx0 ld k cur tg fr tail Q e fl op d true (some false)) : hX P rows0 nx0 ld k cur tg fr tail Q e fl op d true (some t) := by
  cases t with
  | true => exact h1 rfl
  | false => exact h2 rfl
theorem brX_split {a b : RQ} {t : Bool} (h1 : t = true → rwp P n0 a Q e s) (h2 : t = false → rwp P n0 b Q e s) : brX P n0 a b Q e s (.bool t) := by
  cases t with
  | true => exact h1 rfl
  | false => exact h2 rfl
theorem iss_mv {a0} : isSt (.mv a0) = false := id rfl
theorem iss_pick {a0 a1 a2} : isSt (.pick a0 a1 a2) = false := id rfl
theorem iss_nc {a0} : isSt (.nc a0) = false := id rfl
theorem iss_alloc {a0} : isSt (.alloc a0) = false := id rfl
theorem iss_box {a0} : isSt (.box a0) = false := id rfl
theorem iss_build {a0 a1} : isSt (.build a0 a1) = false := id rfl
theorem iss_bslice {a0 a1 a2 a3} : isSt (.bslice a0 a1 a2 a3) = false := id rfl
theorem iss_ld {a0 a1 a2} : isSt (.ld a0 a1 a2) = false := id rfl
theorem iss_fa {a0 a1} : isSt (.fa a0 a1) = false := id rfl
theorem iss_fd {a0 a1 a2 a3} : isSt (.fd a0 a1 a2 a3) = false := id rfl
theorem iss_ias {a0 a1 a2} : isSt (.ias a0 a1 a2) = false := id rfl
theorem iss_iaa {a0 a1 a2 a3} : isSt (.iaa a0 a1 a2 a3) = false := id rfl
theorem iss_ixa {a0 a1 a2 a3 a4} : isSt (.ixa a0 a1 a2 a3 a4) = false := id rfl
theorem iss_ixs {a0 a1} : isSt (.ixs a0 a1) = false := id rfl
theorem iss_ext {a0 a1} : isSt (.ext a0 a1) = false := id rfl
theorem iss_bin {a0 a1 a2} : isSt (.bin a0 a1 a2) = false := id rfl
theorem iss_eqb {a0 a1 a2} : isSt (.eqb a0 a1 a2) = false := id rfl
theorem iss_eqn {a0 a1 a2} : isSt (.eqn a0 a1 a2) = false := id rfl
theorem iss_not {a0} : isSt (.not a0) = false := id rfl
theorem iss_neg {a0} : isSt (.neg a0) = false := id rfl
theorem iss_cv {a0 a1} : isSt (.cv a0 a1) = false := id rfl
theorem iss_b2s {a0} : isSt (.b2s a0) = false := id rfl
theorem iss_s2b {a0} : isSt (.s2b a0) = false := id rfl
theorem iss_mkf {a0 a1 a2} : isSt (.mkf a0 a1 a2) = false := id rfl
theorem iss_mki {a0 a1} : isSt (.mki a0 a1) = false := id rfl
theorem iss_len {a0} : isSt (.len a0) = false := id rfl
theorem iss_lens {a0} : isSt (.lens a0) = false := id rfl
theorem iss_cap {a0} : isSt (.cap a0) = false := id rfl
theorem iss_max2 {a0 a1} : isSt (.max2 a0 a1) = false := id rfl
theorem iss_min2 {a0 a1} : isSt (.min2 a0 a1) = false := id rfl
theorem iss_slc {a0 a1 a2 a3} : isSt (.slc a0 a1 a2 a3) = false := id rfl
theorem iss_sls {a0 a1 a2} : isSt (.sls a0 a1 a2) = false := id rfl
theorem iss_mks {a0 a1 a2 a3 a4} : isSt (.mks a0 a1 a2 a3 a4) = false := id rfl
theorem iss_app {a0 a1 a2 a3 a4} : isSt (.app a0 a1 a2 a3 a4) = false := id rfl
theorem iss_eqv {a0 a1 a2 a3} : isSt (.eqv a0 a1 a2 a3) = false := id rfl
theorem iss_cal {a0 a1} : isSt (.cal a0 a1) = false := id rfl
theorem iss_cav {a0 a1} : isSt (.cav a0 a1) = false := id rfl
theorem iss_pan {a0} : isSt (.pan a0) = false := id rfl
theorem iss_tas {a0 a1} : isSt (.tas a0 a1) = false := id rfl
theorem iss_eqi {a0 a1} : isSt (.eqi a0 a1) = false := id rfl
theorem iss_sla {a0 a1 a2 a3} : isSt (.sla a0 a1 a2 a3) = false := id rfl
theorem iss_cpy {a0 a1} : isSt (.cpy a0 a1) = false := id rfl
theorem iss_bnot {a0} : isSt (.bnot a0) = false := id rfl
theorem thn_n {K : Env → Store → Prop} : thn K Q .normal e s = K e s := rfl
theorem thn_r {K : Env → Store → Prop} : thn K Q .ret e s = Q .ret e s := rfl
theorem thn_e {K : Env → Store → Prop} {i : Nat} : thn K Q (.exit i) e s = Q (.exit i) e s := rfl
theorem thn_p {K : Env → Store → Prop} {v : AV} : thn K Q (.pan v) e s = Q (.pan v) e s := rfl
theorem blk_n {i : Nat} : blk i Q .normal e s = Q .normal e s := rfl
theorem blk_r {i : Nat} : blk i Q .ret e s = Q .ret e s := rfl
theorem blk_e {i j : Nat} : blk i Q (.exit j) e s = (bif j == i then Q .normal e s else Q (.exit j) e s) := rfl
theorem blk_p {i : Nat} {v : AV} : blk i Q (.pan v) e s = Q (.pan v) e s := rfl
end
end Go.Proofs.YtggmkfagcjdifaaDoor.Ai
namespace Go.Proofs.YtggmkfagcjdifaaDoor.Ai
set_option linter.unusedSimpArgs false
set_option linter.unusedVariables false
set_option linter.unnecessarySimpa false
set_option linter.unusedSectionVars false
set_option linter.unusedVariables false

section
variable {α : Type} (St : α → Env × Store) (I : α → Prop) (μ : α → Nat)
def isSt' (e : Env) (s : Store) : Prop := ∃ a, I a ∧ (St a).1 = e ∧ (St a).2 = s
open Classical in
noncomputable def minM (e : Env) (s : Store) : Nat := if h : ∃ m a, I a ∧ (St a).1 = e ∧ (St a).2 = s ∧ μ a = m then Classical.choose (least _ h) else 0
theorem minM_le {a : α} (h : I a) : minM St I μ (St a).1 (St a).2 ≤ μ a := by
  have hex : ∃ m b, I b ∧ (St b).1 = (St a).1 ∧ (St b).2 = (St a).2 ∧ μ b = m := ⟨_, a, h, rfl, rfl, rfl⟩
  unfold minM; rw [dif_pos hex]
  exact (Classical.choose_spec (least _ hex)).2 _ ⟨a, h, rfl, rfl, rfl⟩
theorem minM_at {e : Env} {s : Store} (h : isSt' St I e s) : ∃ a, I a ∧ (St a).1 = e ∧ (St a).2 = s ∧ μ a = minM St I μ e s := by
  obtain ⟨a, ha, rfl, rfl⟩ := h
  have hex : ∃ m b, I b ∧ (St b).1 = (St a).1 ∧ (St b).2 = (St a).2 ∧ μ b = m := ⟨_, a, ha, rfl, rfl, rfl⟩
  unfold minM; rw [dif_pos hex]
  exact (Classical.choose_spec (least _ hex)).1

/-- The end of a round: a next state stands for the one at hand. -/
def rndQ (n0 : Nat) (m : Nat) (e : Env) (s : Store) : Prop := ∃ e' s', Wk n0 e s e' s' ∧ isSt' St I e' s' ∧ minM St I μ e' s' < m
theorem rnd_to {n0 m : Nat} {e : Env} {s : Store} (a : α) (h : I a) (hm : μ a < m) (hw : Wk n0 e s (St a).1 (St a).2) : rndQ St I μ n0 m e s :=
  ⟨_, _, hw, ⟨a, h, rfl, rfl⟩, Nat.lt_of_le_of_lt (minM_le St I μ h) hm⟩
theorem w_loopS {P : Program} {n0 : Nat} {Q : AX → Env → Store → Prop} {e : Env} {s : Store} {b : RQ} (a0 : α) (h0 : I a0) (hw : Wk n0 e s (St a0).1 (St a0).2)
    (h : ∀ a, I a → rwp P n0 b (thn (rndQ St I μ n0 (μ a)) Q) (St a).1 (St a).2) : rwp P n0 (.loop b) Q e s := by
  refine ⟨isSt' St I, minM St I μ, ⟨_, _, hw, a0, h0, rfl, rfl⟩, ?_⟩
  intro e s hs
  obtain ⟨b0, hb, rfl, rfl, h3⟩ := minM_at St I μ hs
  rw [← h3]
  exact h b0 hb
end

/-! ### Ends -/
theorem All2.refl {α : Type} {R : α → α → Prop} (h : ∀ x, R x x) : ∀ l : List α, All2 R l l
  | [] => trivial
  | x :: l => ⟨h x, All2.refl h l⟩
def rvE : List RV → AV → Option Env
  | [], .tup [] => some []
  | [.t t], v => some [(t, v)]
  | [.c t false 1], v => some [(t, .rop [v])]
  | [.c t true _], .agg cs => some [(t, .rop cs)]
  | .t t :: r :: l, .tup (v :: w :: vs) => (rvE2 (r :: l) (w :: vs)).map ((t, v) :: ·)
  | .c t false 1 :: r :: l, .tup (v :: w :: vs) => (rvE2 (r :: l) (w :: vs)).map ((t, .rop [v]) :: ·)
  | .c t true _ :: r :: l, .tup (.agg cs :: w :: vs) => (rvE2 (r :: l) (w :: vs)).map ((t, .rop cs) :: ·)
  | _, _ => none
where
  rvE2 : List RV → List AV → Option Env
  | [], [] => some []
  | .t t :: l, v :: vs => (rvE2 l vs).map ((t, v) :: ·)
  | .c t false 1 :: l, v :: vs => (rvE2 l vs).map ((t, .rop [v]) :: ·)
  | .c t true _ :: l, .agg cs :: vs => (rvE2 l vs).map ((t, .rop cs) :: ·)
  | _, _ => none

section
variable {rows : Rows} {Z : Nat → Bool}
theorem cv_self (v : AV) : Cv rows Z (fun i => i) v v := by
  suffices H : ∀ (n : Nat) (v : AV), SizeOf.sizeOf v < n → Cv rows Z (fun i => i) v v from H _ v (Nat.lt_succ_self _)
  intro n
  induction n with
  | zero => intro v h; omega
  | succ n ih =>
    intro v h
    have mem : ∀ {cs : List AV}, SizeOf.sizeOf cs < n → ∀ (j : Nat) (c d : AV), cs[j]? = some c → cs[j]? = some d → Cv rows Z (fun i => i) c d := by
      intro cs hs j c d hc hd
      rw [hc] at hd; cases hd
      exact ih c (Nat.lt_of_lt_of_le (List.sizeOf_lt_of_mem (List.mem_of_getElem? hc)) (by omega))
    cases v with
    | any => exact .any _
    | bool b => exact .bool b
    | int k m => exact .int k m
    | str s => exact .str s
    | nilp => exact .nilp
    | nils => exact .nils
    | nilf => exact .nilf
    | nili => exact .nili
    | nilm => exact .nilm
    | agg cs => simp only [AV.agg.sizeOf_spec] at h; exact .agg cs cs rfl (mem (by omega))
    | tup cs => simp only [AV.tup.sizeOf_spec] at h; exact .tup cs cs rfl (mem (by omega))
    | ros sz es =>
      simp only [AV.ros.sizeOf_spec] at h
      refine .ros sz es es rfl (fun i x y hx hy => by rw [hx] at hy; cases hy; rfl) fun i x y j c d hx hy hc hd => ?_
      rw [hx] at hy; cases hy
      exact mem (Nat.lt_of_lt_of_le (List.sizeOf_lt_of_mem (List.mem_of_getElem? hx)) (by omega)) j c d hc hd
    | rop cs => simp only [AV.rop.sizeOf_spec] at h; exact .rop cs cs rfl (mem (by omega))
    | sl id sz i m c => exact .sl id id sz i m c c rfl (.inl rfl)
    | pt id sz i o => exact .pt id id sz i o rfl
    | fn f xs ys =>
      simp only [AV.fn.sizeOf_spec] at h
      exact .fn f xs ys xs ys rfl rfl (mem (by omega)) (mem (by omega))
    | ifc t v => simp only [AV.ifc.sizeOf_spec] at h; exact .ifc t v v (ih v (by omega))
    | roe sz => exact .roe sz
    | opt t v => simp only [AV.opt.sizeOf_spec] at h; exact .opt t v v (ih v (by omega))
theorem cv_closed {rho : Nat → Nat} {v : AV} (h : Cl v) : Cv rows Z rho v v := by
  induction h with
  | any => exact .any _
  | bool b => exact .bool b
  | int k m => exact .int k m
  | str s => exact .str s
  | nilp => exact .nilp
  | nils => exact .nils
  | nilf => exact .nilf
  | nili => exact .nili
  | nilm => exact .nilm
  | agg cs h ih => exact .agg cs cs rfl fun j c d hc hd => by rw [hc] at hd; cases hd; exact ih c (List.mem_of_getElem? hc)
  | tup cs h ih => exact .tup cs cs rfl fun j c d hc hd => by rw [hc] at hd; cases hd; exact ih c (List.mem_of_getElem? hc)
  | ros sz es h ih => exact .ros sz es es rfl (fun i x y hx hy => by rw [hx] at hy; cases hy; rfl) fun i x y j c d hx hy hc hd => by (rw [hx] at hy; cases hy; rw [hc] at hd; cases hd; exact ih x (List.mem_of_getElem? hx) c (List.mem_of_getElem? hc))
  | rop cs h ih => exact .rop cs cs rfl fun j c d hc hd => by rw [hc] at hd; cases hd; exact ih c (List.mem_of_getElem? hc)
  | fn f xs ys h1 h2 ih1 ih2 => exact .fn f xs ys xs ys rfl rfl (fun j c d hc hd => by rw [hc] at hd; cases hd; exact ih1 c (List.mem_of_getElem? hc)) (fun j c d hc hd => by rw [hc] at hd; cases hd; exact ih2 c (List.mem_of_getElem? hc))
  | ifc t v h ih => exact .ifc t v v ih
  | roe sz => exact .roe sz
  | opt t v h ih => exact .opt t v v ih
theorem cv_ros_self {rho : Nat → Nat} {sz : Nat} {es : List (List AV)} (h : ∀ x ∈ es, ∀ c ∈ x, Cl c) : Cv rows Z rho (.ros sz es) (.ros sz es) := cv_closed (.ros sz es h)
theorem bel_ros_cl {k sz : Nat} {es : List (List AV)} (h : ∀ x ∈ es, ∀ c ∈ x, Cl c) : Bel k (.ros sz es) := (Cl.ros sz es h).bel
theorem bel_cells {k : Nat} {es : List (List AV)} (h : ∀ x ∈ es, ∀ c ∈ x, Cl c) : ∀ x ∈ es, ∀ c ∈ x, Bel k c := fun x hx c hc => (h x hx c hc).bel
theorem all2_self {rho : Nat → Nat} {es : List (List AV)} (h : ∀ x ∈ es, ∀ c ∈ x, Cl c) : All2 (All2 (Cv rows Z rho)) es es := by
  refine all2_of rfl fun j c d hc hd => ?_
  rw [hc] at hd; cases hd
  refine all2_of rfl fun i x y hx hy => ?_
  rw [hx] at hy; cases hy
  exact cv_closed (h c (List.mem_of_getElem? hc) x (List.mem_of_getElem? hx))
theorem one_int {k : IntKind} {n : Int} : (AV.int k n).one = True := rfl
theorem one_bool {b : Bool} : (AV.bool b).one = True := rfl
theorem one_str {s : ByteArray} : (AV.str s).one = True := rfl
theorem one_nils : (AV.nils).one = True := rfl
theorem one_ros {sz : Nat} {es : List (List AV)} : (AV.ros sz es).one = True := rfl
theorem one_sl {id sz i n : Nat} {k : Option Nat} : (AV.sl id sz i n k).one = True := rfl
theorem cv_refl {v : AV} : Cv rows Z (fun i => i) v v = True := eq_true (cv_self v)
theorem cv_slR {id sz q i n : Nat} {k : Option Nat} {fs : List (List AV)} : (match look rows id with
    | some r => r.sz = sz ∧ q = sz ∧ i + n ≤ r.es.length ∧ (∀ y ∈ fs, y.length = sz) ∧ Z id = true ∧ All2 (All2 (Cv rows Z (fun i => i))) ((r.es.drop i).take n) fs
    | none => False) → Cv rows Z (fun i => i) (.sl id sz i n k) (.ros q fs) := by
  intro h
  split at h
  · rename_i r hr
    exact cv_frz hr h.2.2.2.2.1 h.1 h.2.1 h.2.2.1 h.2.2.2.1 h.2.2.2.2.2
  · exact h.elim
end

theorem cv_slE {rows : Rows} {Z : Nat → Bool} {id sz q i n : Nat} {k : Option Nat} {fs : List (List AV)} {r : Row} (hr : look rows id = some r) (hz : Z id = true) (h1 : r.sz = sz ∧ q = sz) (h2 : i + n ≤ r.es.length ∧ ∀ y ∈ fs, y.length = sz) (h3 : (r.es.drop i).take n = fs) :
    Cv rows Z (fun i => i) (.sl id sz i n k) (.ros q fs) := cv_frz hr hz h1.1 h1.2 h2.1 h2.2 (h3 ▸ All2.refl (fun l => All2.refl cv_self l) _)

theorem cv_slF {rows : Rows} {Z : Nat → Bool} {id sz q n : Nat} {k : Option Nat} {fs : List (List AV)} {r : Row} (hr : look rows id = some r) (hz : Z id = true) (h1 : r.sz = sz ∧ q = sz) (h2 : ∀ y ∈ fs, y.length = sz) (h3 : r.es = fs) (hn : n = fs.length) :
    Cv rows Z (fun i => i) (.sl id sz 0 n k) (.ros q fs) := by
  subst hn; subst h3
  exact cv_slE hr hz h1 ⟨by omega, h2⟩ (by rw [List.drop_zero, List.take_length])
theorem cv_slG {rows : Rows} {Z : Nat → Bool} {rho : Nat → Nat} {id sz q n : Nat} {k : Option Nat} {fs : List (List AV)} {r : Row} (hr : look rows id = some r) (hz : Z id = true) (h1 : r.sz = sz ∧ q = sz) (h2 : ∀ y ∈ fs, y.length = sz) (h3 : r.es = fs) (hn : n = fs.length) (hc : ∀ x ∈ fs, ∀ c ∈ x, Cl c) :
    Cv rows Z rho (.sl id sz 0 n k) (.ros q fs) := by
  subst hn; subst h3
  exact cv_frz hr hz h1.1 h1.2 (by omega) h2 (by rw [List.drop_zero, List.take_length]; exact all2_self hc)
theorem cv_ptE {rows : Rows} {Z : Nat → Bool} {rho : Nat → Nat} {id sz i o : Nat} {ds : List AV} {r : Row} (hr : look rows id = some r) (hz : Z id = true) (h1 : r.sz = sz) (h2 : decide (i < r.es.length) = true) (h3 : decide (o + ds.length ≤ sz) = true) (h4 : All2 (Cv rows Z rho) (((r.es.getD i []).drop o).take ds.length) ds) :
    Cv rows Z rho (.pt id sz i o) (.rop ds) := by
  refine .ptf id sz i o r ds hz hr h1 (of_decide_eq_true h2) (of_decide_eq_true h3) fun j c d hc hd => ?_
  have hj : j < ds.length := (List.getElem?_eq_some_iff.1 hd).1
  exact all2_get h4 j c d (by rw [List.getElem?_take, if_pos hj, List.getElem?_drop]; exact hc) hd

/-- The end of a function whose results' rows nobody writes any more. -/
def cvAll (rows : Rows) (e : Env) : Env → Prop
  | [] => True
  | (t, v) :: l => (Cv rows (fun _ => true) (fun i => i) (get e t) v ∧ Cl v) ∧ cvAll rows e l
theorem cvAll_mem {rows : Rows} {e : Env} : ∀ {l : Env}, cvAll rows e l → ∀ x ∈ l, Cv rows (fun _ => true) (fun i => i) (get e x.1) x.2 ∧ Cl x.2
  | [], _, x, hx => by cases hx
  | (t, v) :: l, h, x, hx => by
    rcases List.mem_cons.1 hx with rfl | hx
    · exact h.1
    · exact cvAll_mem h.2 x hx
theorem Cl.bel0 {v : AV} (h : Cl v) {k : Nat} : Bel k v := h.bel
theorem ret_frz {rv : List RV} {v : AV} {e e' : Env} {s : Store} (h0 : rvE rv v = some e') (h1 : cvAll s.rows e e') (h2 : rvsC e' ⟨0, []⟩ rv) (h3 : tupV (rv.map (rvV e' ⟨0, []⟩)) = v) (h4 : Cl v) : retQ 0 rv v .ret e s := by
  refine ⟨e', ⟨0, []⟩, Wk.cv (fun _ => true) (fun i => i) (Nat.zero_le _) (fun _ _ => rfl) (fun x hx => ?_) (fun q hq => by cases hq) (fun q hq => by cases hq), h2, h3, h4⟩
  have := cvAll_mem h1 x hx
  exact ⟨this.1, this.2.bel⟩
theorem end_frz {rv : List RV} {v : AV} {e e' : Env} {s : Store} (h0 : rvE rv v = some e') (h1 : cvAll s.rows e e') (h2 : rvsC e' ⟨0, []⟩ rv) (h3 : tupV (rv.map (rvV e' ⟨0, []⟩)) = v) (h4 : Cl v) : retQ 0 rv v .normal e s := ret_frz h0 h1 h2 h3 h4

/-! ### Lists of things of one shape -/
theorem getD_map {α : Type} {xs : List α} {enc : α → List AV} {k : Nat} {x : α} (h : xs[k]? = some x) : (xs.map enc).getD k [] = enc x := by
  simp [List.getD, List.getElem?_map, h]
theorem take_map_len {α β : Type} {f : α → β} {l : List α} : (l.map f).take l.length = l.map f := List.take_of_length_le (by simp)
theorem cl_map {α : Type} {enc : α → List AV} (h : ∀ x, ∀ c ∈ enc x, Cl c) {sz : Nat} {xs : List α} : Cl (.ros sz (xs.map enc)) := by
  refine .ros sz _ fun y hy c hc => ?_
  obtain ⟨x, _, rfl⟩ := List.mem_map.1 hy
  exact h x c hc
theorem cl_ints {k : IntKind} {xs : List Int} {sz : Nat} : Cl (.ros sz (xs.map fun n => [AV.int k n])) = True := eq_true (cl_map fun x c hc => by
  rw [List.mem_singleton] at hc; subst hc; exact .int _ _)
theorem bel_ints {k : IntKind} {xs : List Int} {sz m : Nat} : Bel m (.ros sz (xs.map fun n => [AV.int k n])) = True := eq_true ((cl_map fun x c hc => by
  rw [List.mem_singleton] at hc; subst hc; exact .int _ _ : Cl _).bel)

/-- A slice that grows: nil at first. -/
def accV (id sz : Nat) : List (List AV) → AV
  | [] => .nils
  | x :: l => .sl id sz 0 (l.length + 1) none
def accR (id sz : Nat) : List (List AV) → Rows
  | [] => []
  | x :: l => [(id, ⟨sz, x :: l⟩)]
theorem accV_snoc {id sz : Nat} {es : List (List AV)} {x : List AV} : accV id sz (es ++ [x]) = .sl id sz 0 (es.length + 1) none := by
  cases es <;> simp [accV]
theorem accR_snoc {id sz : Nat} {es : List (List AV)} {x : List AV} : accR id sz (es ++ [x]) = [(id, ⟨sz, es ++ [x]⟩)] := by
  cases es <;> simp [accR]

/-! ### States told otherwise, item by item -/
def envAll (rows : Rows) (Z : Nat → Bool) (rho : Nat → Nat) (n : Nat) (e : Env) : Env → Prop
  | [] => True
  | (t, v) :: l => (Cv rows Z rho (get e t) v ∧ Bel n v) ∧ envAll rows Z rho n e l
def cellsCv (rows : Rows) (Z : Nat → Bool) (rho : Nat → Nat) (n : Nat) (es fs : List (List AV)) : Prop := All2 (All2 (Cv rows Z rho)) es fs ∧ ∀ x ∈ fs, ∀ v ∈ x, Bel n v
def rowCv (rows : Rows) (Z : Nat → Bool) (rho : Nat → Nat) (n : Nat) : Option Row → Row → Prop
  | some r0, r => r.sz = r0.sz ∧ cellsCv rows Z rho n r0.es r.es
  | none, _ => False
def rowsAll (rows : Rows) (Z : Nat → Bool) (rho : Nat → Nat) (n : Nat) : Rows → Prop
  | [] => True
  | (id, r) :: l => (id < n ∧ Z (rho id) = false ∧ rowCv rows Z rho n (look rows (rho id)) r) ∧ rowsAll rows Z rho n l
theorem cellsCv_eq {rows : Rows} {Z : Nat → Bool} {rho : Nat → Nat} {n : Nat} {es fs : List (List AV)} (h : fs = es) (hc : ∀ x ∈ es, ∀ v ∈ x, Cl v) : cellsCv rows Z rho n es fs := by
  subst h; exact ⟨all2_self hc, bel_cells hc⟩
theorem envAll_mem {rows : Rows} {Z : Nat → Bool} {rho : Nat → Nat} {n : Nat} {e : Env} : ∀ {l : Env}, envAll rows Z rho n e l → ∀ x ∈ l, Cv rows Z rho (get e x.1) x.2 ∧ Bel n x.2
  | [], _, x, hx => by cases hx
  | (t, v) :: l, h, x, hx => by
    rcases List.mem_cons.1 hx with rfl | hx
    · exact h.1
    · exact envAll_mem h.2 x hx
theorem rowsAll_mem {rows : Rows} {Z : Nat → Bool} {rho : Nat → Nat} {n : Nat} : ∀ {l : Rows}, rowsAll rows Z rho n l → ∀ q ∈ l, q.1 < n ∧ Z (rho q.1) = false ∧ rowCv rows Z rho n (look rows (rho q.1)) q.2
  | [], _, x, hx => by cases hx
  | (t, v) :: l, h, x, hx => by
    rcases List.mem_cons.1 hx with rfl | hx
    · exact h.1
    · exact rowsAll_mem h.2 x hx
theorem Wk.ren {n0 : Nat} {e e' : Env} {s s' : Store} (Z : Nat → Bool) (rho : Nat → Nat) (hn : n0 ≤ s'.nx) (h0 : ∀ i, i < n0 → rho i = i) (he : envAll s.rows Z rho s'.nx e e') (hr : rowsAll s.rows Z rho s'.nx s'.rows)
    (hinj : ∀ q ∈ s'.rows, ∀ q' ∈ s'.rows, rho q.1 = rho q'.1 → q.1 = q'.1) : Wk n0 e s e' s' := by
  refine Wk.cv Z rho hn h0 (envAll_mem he) (fun q hq => ?_) hinj
  obtain ⟨h1, hz, h2⟩ := rowsAll_mem hr q hq
  refine ⟨h1, ?_⟩
  cases hl : look s.rows (rho q.1) with
  | none => rw [hl] at h2; exact h2.elim
  | some r => rw [hl] at h2; exact ⟨r, rfl, hz, h2.1, h2.2.1, h2.2.2⟩

/-! ### Empty slices, nil or not -/
def prodL : List (List AV) → List (List AV)
  | [] => [[]]
  | x :: l => x.flatMap fun a => (prodL l).map (a :: ·)
def ref0 : AV → List AV
  | .ros sz [] => [.nils, .roe sz]
  | v => [v]
def ref1 : AV → List AV
  | .agg cs => (prodL (cs.map ref0)).map .agg
  | v => ref0 v
section
variable {F : Nat → Prop} {w : World} {p : Place} {D : Nat → Prop}
theorem ref0_vr {v : AV} {u : Value} (h : VR F w p D v u) : ∃ v', v' ∈ ref0 v ∧ VR F w p D v' u := by
  by_cases hv : ∃ sz, v = .ros sz []
  · obtain ⟨sz, rfl⟩ := hv
    cases h with
    | rosNil => exact ⟨.nils, by simp [ref0], .nils⟩
    | rosEmp _ a cap => exact ⟨.roe sz, by simp [ref0], .roe sz a cap⟩
    | ros _ _ b o cap c t fz hb hF hcap hsz hr h => exact ⟨.roe sz, by simp [ref0], .roe sz _ cap⟩
  · refine ⟨v, ?_, h⟩
    unfold ref0
    split
    · rename_i sz
      exact absurd ⟨sz, rfl⟩ hv
    · simp
theorem prodL_vr {f : AV → List AV} (hf : ∀ v u, VR F w p D v u → ∃ v', v' ∈ f v ∧ VR F w p D v' u) : ∀ (cs : List AV) (us : List Value), (∀ (j : Nat) (v : AV), cs[j]? = some v → VR F w p D v (us.getD j undef)) →
    ∃ ds, ds ∈ prodL (cs.map f) ∧ ds.length = cs.length ∧ ∀ (j : Nat) (v : AV), ds[j]? = some v → VR F w p D v (us.getD j undef)
  | [], us, h => ⟨[], by simp [prodL], rfl, by simp⟩
  | c :: cs, us, h => by
    obtain ⟨d, hd, hv⟩ := hf c _ (h 0 c rfl)
    obtain ⟨ds, h1, h2, h3⟩ := prodL_vr hf cs us.tail fun j v hj => by
      have := h (j + 1) v (by simpa using hj)
      cases us with
      | nil => simpa using this
      | cons u us => simpa using this
    refine ⟨d :: ds, ?_, by simp [h2], fun j v hj => ?_⟩
    · simp only [List.map_cons, prodL, List.mem_flatMap, List.mem_map]
      exact ⟨d, hd, ds, h1, rfl⟩
    · cases j with
      | zero => simp at hj; subst hj; exact hv
      | succ j =>
        have := h3 j v (by simpa using hj)
        cases us with
        | nil => simpa using this
        | cons u us => simpa using this
theorem ref1_vr {v : AV} {u : Value} (h : VR F w p D v u) : ∃ v', v' ∈ ref1 v ∧ VR F w p D v' u := by
  by_cases hv : ∃ cs, v = .agg cs
  · obtain ⟨cs, rfl⟩ := hv
    cases h with
    | agg _ us hs hh =>
      obtain ⟨ds, h1, h2, h3⟩ := prodL_vr (fun v u => ref0_vr) cs us.toList fun j v hj => by
        have := hh j v hj
        rw [Array.getD_eq_getD_getElem?] at this
        rw [List.getD_eq_getElem?_getD]
        simpa using this
      refine ⟨.agg ds, List.mem_map.2 ⟨ds, h1, rfl⟩, .agg ds us (by rw [hs, h2]) fun j v hj => ?_⟩
      have := h3 j v hj
      rw [List.getD_eq_getElem?_getD] at this
      rw [Array.getD_eq_getD_getElem?]
      simpa using this
  · obtain ⟨v', h1, h2⟩ := ref0_vr h
    refine ⟨v', ?_, h2⟩
    unfold ref1
    split
    · rename_i cs
      exact absurd ⟨cs, rfl⟩ hv
    · exact h1
theorem cargs_ref {xs : List AV} {args : Array Value} (h : CArgs F w xs args) : ∃ ys, ys ∈ prodL (xs.map ref1) ∧ CArgs F w ys args := by
  obtain ⟨ds, h1, h2, h3⟩ := prodL_vr (fun v u => ref1_vr) xs args.toList fun j v hj => by
    have := h.2 j v hj
    rw [Array.getD_eq_getD_getElem?] at this
    rw [List.getD_eq_getElem?_getD]
    simpa using this
  refine ⟨ds, h1, by rw [h2]; exact h.1, fun j v hj => ?_⟩
  have := h3 j v hj
  rw [List.getD_eq_getElem?_getD] at this
  rw [Array.getD_eq_getD_getElem?]
  simpa using this
/-- What holds for each empty slice, nil or not. -/
theorem PCall.emps {P : Program} {f : FuncId} {xs : List AV} {v : AV} (h : ∀ ys, ys ∈ prodL (xs.map ref1) → PCall P f ys v) (hne : ∃ ys, ys ∈ prodL (xs.map ref1)) : PCall P f xs v := by
  obtain ⟨y0, hy0⟩ := hne
  refine ⟨(h y0 hy0).enter, fun F w args ho ha => ?_⟩
  obtain ⟨ys, h1, h2⟩ := cargs_ref ha
  exact (h ys h1).run F w args ho h2

/-- y is told by x too. -/
inductive Ge : AV → AV → Prop
  | refl (v : AV) : Ge v v
  | nil (sz : Nat) : Ge .nils (.ros sz [])
  | roe (sz : Nat) : Ge (.roe sz) (.ros sz [])
  | any (v : AV) : Ge v .any
  | agg (cs ds : List AV) (hl : ds.length = cs.length) (h : ∀ (j : Nat) (c d : AV), cs[j]? = some c → ds[j]? = some d → Ge c d) : Ge (.agg cs) (.agg ds)
theorem ge_vr {y x : AV} (h : Ge y x) : ∀ {u : Value}, VR F w p D y u → VR F w p D x u := by
  induction h with
  | refl v => intro u h; exact h
  | nil sz => intro u h; cases h; exact .rosNil sz
  | roe sz => intro u h; cases h with | roe _ a cap => exact .rosEmp sz a cap
  | any v => intro u h; exact .any u
  | agg cs ds hl hh ih =>
    intro u h
    cases h with | agg _ us h1 h2 =>
    refine .agg ds us (by rw [hl, h1]) fun j d hd => ?_
    have hj : j < cs.length := by rw [← hl]; exact (List.getElem?_eq_some_iff.1 hd).1
    exact ih j _ d (List.getElem?_eq_getElem hj) hd (h2 j _ (List.getElem?_eq_getElem hj))
theorem PCall.weak {P : Program} {f : FuncId} {xs ys : List AV} {v : AV} (h : PCall P f xs v) (hw : All2 Ge ys xs) : PCall P f ys v := by
  refine ⟨h.enter, fun F w args ho ha => h.run F w args ho ⟨by rw [all2_len hw]; exact ha.1, fun j x hx => ?_⟩⟩
  have hj : j < ys.length := by rw [← all2_len hw]; exact (List.getElem?_eq_some_iff.1 hx).1
  exact ge_vr (all2_get hw j _ x (List.getElem?_eq_getElem hj) hx) (ha.2 j _ (List.getElem?_eq_getElem hj))
end
/-- A slice of these elements, that nobody writes; empty: nil or not. -/
def isSl (sz : Nat) (v : AV) : List (List AV) → Prop
  | [] => v = .nils ∨ v = .roe sz
  | x :: l => v = .ros sz (x :: l)
theorem isSl_ge {sz : Nat} {v : AV} {es : List (List AV)} (h : isSl sz v es) : Ge v (.ros sz es) := by
  cases es with
  | nil => rcases h with rfl | rfl; exact .nil sz; exact .roe sz
  | cons x l => rw [h]; exact .refl _
theorem ge_agg {cs ds : List AV} (h : All2 Ge cs ds) : Ge (.agg cs) (.agg ds) := .agg cs ds (all2_len h) (all2_get h)
theorem isSl_ref {sz : Nat} {v : AV} {es : List (List AV)} (h : v ∈ ref0 (.ros sz es)) : isSl sz v es := by
  cases es with
  | nil => simpa [ref0, isSl] using h
  | cons x l => simpa [ref0, isSl] using h

theorem look_lt {rows : Rows} {m : Nat} (h : rows.all (fun q => decide (q.1 < m)) = true) : ∀ id r, look rows id = some r → id < m := fun id r hl => by
  simpa using List.all_eq_true.1 h _ (look_mem hl)
theorem all_accR {id sz m : Nat} {es : List (List AV)} (h : id < m) : (accR id sz es).all (fun q => decide (q.1 < m)) = true := by cases es <;> simp [accR, h]

/-! ### Calls that may panic -/
theorem outQ_pan {rv : List RV} {o : AO} {v : AV} {e : Env} {s : Store} (h : o = .pan v) (hc : Cl v) : outQ 0 rv o ⟨0, []⟩ (.pan v) e s :=
  ⟨[], Wk.to (Nat.le_refl _) (Nat.zero_le _) (by simp) (by simp), h, hc⟩
theorem outQ_unit {o : AO} {e : Env} {s : Store} (h : o = .ret (.tup [])) : outQ 0 [] o ⟨0, []⟩ .ret e s :=
  ⟨[], Wk.to (Nat.le_refl _) (Nat.zero_le _) (by simp) (by simp), trivial, h⟩
theorem outQ_unitN {o : AO} {e : Env} {s : Store} (h : o = .ret (.tup [])) : outQ 0 [] o ⟨0, []⟩ .normal e s := outQ_unit h
theorem outQ_frz {rv : List RV} {v : AV} {e e' : Env} {s : Store} (h0 : rvE rv v = some e') (h1 : cvAll s.rows e e') (h2 : rvsC e' ⟨0, []⟩ rv) (h3 : tupV (rv.map (rvV e' ⟨0, []⟩)) = v) : outQ 0 rv (.ret v) ⟨0, []⟩ .ret e s := by
  refine ⟨e', Wk.cv (fun _ => true) (fun i => i) (Nat.zero_le _) (fun _ _ => rfl) (fun x hx => ?_) (fun q hq => by cases hq) (fun q hq => by cases hq), h2, by rw [h3]⟩
  have := cvAll_mem h1 x hx
  exact ⟨this.1, this.2.bel⟩
def outR (b : Bool) (v u : AV) : AO := bif b then .ret v else .pan u
theorem outK_split {K Kp : AV → Store → Prop} {b : Bool} {v u : AV} {s : Store} (h1 : b = true → K v s) (h2 : b = false → Kp u s) : outK K Kp (outR b v u) s := by
  cases b with
  | true => exact h1 rfl
  | false => exact h2 rfl

theorem outR_cl {b : Bool} {v u : AV} (h1 : Cl v) (h2 : Cl u) : outCl (outR b v u) := by cases b <;> assumption
end Go.Proofs.YtggmkfagcjdifaaDoor.Ai
namespace Go.Proofs.YtggmkfagcjdifaaDoor.Ai
set_option linter.unusedSimpArgs false
set_option linter.unusedVariables false
set_option linter.unnecessarySimpa false
set_option linter.unusedSectionVars false
set_option linter.unusedVariables false

section
variable {P : Program} {f : FuncId} {xs xs' : List AV} {m : Nat} {new : Rows} {v : AV} {s : Store}
/-- A call that reads rows of the caller. -/
theorem RCall.frz (h : RCall P f xs' s.nx m new v) (hx : All2 (frzArg s.rows) xs xs') (hv : Fl v) (hnew : flRows new) : SCall P f xs s (.ret v) ⟨s.nx + m, new ++ s.rows⟩ := by
  refine ⟨h.enter, fun F w p args hs ha => ?_⟩
  have hold : Old (frozenIn F p s.rows (fun _ => true)) w := hs.frozen
  have hargs : CArgs (frozenIn F p s.rows (fun _ => true)) w xs' args := by
    refine ⟨by rw [all2_len hx]; exact ha.1, fun j x' hj => ?_⟩
    have hlt : j < xs.length := by rw [← all2_len hx]; exact (List.getElem?_eq_some_iff.1 hj).1
    obtain ⟨h1, h2⟩ := all2_get hx j _ x' (List.getElem?_eq_getElem hlt) hj
    have := ha.2 j _ (List.getElem?_eq_getElem hlt)
    exact (VR.cv (D' := fun i => i < s.nx) hs (fun _ h => h) h1 this).closed h2
  refine Calls.mono (h.run _ w args hold hargs) ?_
  rintro e w' ⟨u, rfl, F', p1, hp⟩
  have hq : PRm F w p (fun i => i < s.nx) s.nx m F w' u new v (fun i => if s.nx ≤ i ∧ i < s.nx + m then p1 i else p i) := by
    have g := hp.at (p := p) (D := fun i => i < s.nx)
    refine ⟨g.grow, fun _ h => h, fun _ h => .inl h, g.keep, fun id r hl => ?_, g.apart, g.val.flat hv⟩
    obtain ⟨a1, a2, a3, _, ⟨⟨c, t, fz, hb, hf, hr, hv2⟩, hz⟩⟩ := g.nrow _ _ hl
    have hfl := flRows_look hnew hl
    exact ⟨a1, a2, a3, fun hF => by have := hs.old _ hF; omega, ⟨c, t, fz, hb, hf, hr, fun i x j v hx hj => (hv2 i x j v hx hj).flat (hfl x (List.mem_of_getElem? hx) v (List.mem_of_getElem? hj))⟩, hz⟩
  obtain ⟨h1, h2, h3, _⟩ := hq.store hs (Nat.le_refl _)
  exact ⟨F, _, .ret v u h3, h1, h2⟩
theorem PCall.frz (h : PCall P f xs' v) (hx : All2 (frzArg s.rows) xs xs') (hv : Fl v) : SCall P f xs s (.ret v) s := (h.r (k := s.nx)).frz hx hv trivial

/-- What a call gives in rows of its own, made still. -/
theorem RCall.still {v' : AV} (h : RCall P f xs 0 m new v) (hc : Cv new (fun _ => true) (fun i => i) v v') (hcl : Cl v') : PCall P f xs v' := by
  refine ⟨h.enter, fun F w args ho ha => Calls.mono (h.run F w args ho ha) ?_⟩
  rintro e w' ⟨u, rfl, F', p1, hp⟩
  have hg := hp
  have hs : SRel F' w' p1 (fun i => False ∨ (0 ≤ i ∧ i < 0 + m)) new := by
    refine ⟨fun id r hl => ?_, hg.apart, ho.new hg.grow hg.inF hg.newF⟩
    obtain ⟨a1, _, _, a4, a5⟩ := hg.nrow _ _ hl
    exact ⟨.inr a1, a4, a5⟩
  refine ⟨u, rfl, frozenIn F' p1 new (fun _ => true), hg.grow, fun b hb => .inl (hg.inF b hb), ?_, (VR.cv (D' := fun i => False ∨ (0 ≤ i ∧ i < 0 + m)) hs (fun _ h => h) hc hg.val).closed hcl⟩
  rintro b (hb | ⟨id, r, _, hl, rfl⟩)
  · exact hg.newF b hb
  · obtain ⟨_, a2, a3, _⟩ := hg.nrow _ _ hl
    exact .inr ⟨a2, a3⟩
theorem RCall.emps {k : Nat} (h : ∀ ys, ys ∈ prodL (xs.map ref1) → RCall P f ys k m new v) (hne : ∃ ys, ys ∈ prodL (xs.map ref1)) : RCall P f xs k m new v := by
  obtain ⟨y0, hy0⟩ := hne
  refine ⟨(h y0 hy0).enter, (h y0 hy0).rng, fun F w args ho ha => ?_⟩
  obtain ⟨ys, h1, h2⟩ := cargs_ref ha
  exact (h ys h1).run F w args ho h2
theorem RCall.weak {ys : List AV} {k : Nat} (h : RCall P f xs k m new v) (hw : All2 Ge ys xs) : RCall P f ys k m new v := by
  refine ⟨h.enter, h.rng, fun F w args ho ha => h.run F w args ho ⟨by rw [all2_len hw]; exact ha.1, fun j x hx => ?_⟩⟩
  have hj : j < ys.length := by rw [← all2_len hw]; exact (List.getElem?_eq_some_iff.1 hx).1
  exact ge_vr (all2_get hw j _ x (List.getElem?_eq_getElem hj) hx) (ha.2 j _ (List.getElem?_eq_getElem hj))
end

theorem bits2_and {k : IntKind} {a b : Int} : bits2 k (BitVec.ofInt k.bits a &&& BitVec.ofInt k.bits b) = .int k (Go.bits .and k a b) := rfl
theorem bits2_or {k : IntKind} {a b : Int} : bits2 k (BitVec.ofInt k.bits a ||| BitVec.ofInt k.bits b) = .int k (Go.bits .or k a b) := rfl
theorem bits2_xor {k : IntKind} {a b : Int} : bits2 k (BitVec.ofInt k.bits a ^^^ BitVec.ofInt k.bits b) = .int k (Go.bits .xor k a b) := rfl
theorem bits2_not {k : IntKind} {a b : Int} : bits2 k (BitVec.ofInt k.bits a &&& ~~~ BitVec.ofInt k.bits b) = .int k (Go.bits .andNot k a b) := rfl
/-- Two slices of a struct, empty: nil or not. -/
theorem isSl_vr {F : Nat → Prop} {w : World} {p : Place} {D : Nat → Prop} {sz : Nat} {es : List (List AV)} {u : Value} (h : VR F w p D (.ros sz es) u) : ∃ v, isSl sz v es ∧ VR F w p D v u := by
  obtain ⟨v, h1, h2⟩ := ref0_vr h
  exact ⟨v, isSl_ref h1, h2⟩
theorem agg2_vr {F : Nat → Prop} {w : World} {p : Place} {D : Nat → Prop} {s1 s2 : Nat} {o q : List (List AV)} {l : List AV} {u : Value} (h : VR F w p D (.agg (.ros s1 o :: .ros s2 q :: l)) u) :
    ∃ oV qV, isSl s1 oV o ∧ isSl s2 qV q ∧ VR F w p D (.agg (oV :: qV :: l)) u := by
  cases h with
  | agg _ us hs hh =>
    obtain ⟨oV, h1, h2⟩ := isSl_vr (hh 0 _ rfl)
    obtain ⟨qV, h3, h4⟩ := isSl_vr (hh 1 _ rfl)
    refine ⟨oV, qV, h1, h3, .agg _ us hs fun j v hj => ?_⟩
    match j, hj with
    | 0, hj => simp at hj; subst hj; exact h2
    | 1, hj => simp at hj; subst hj; exact h4
    | j + 2, hj => exact hh (j + 2) v (by simpa using hj)
theorem isSl_any (sz : Nat) (es : List (List AV)) : ∃ v, isSl sz v es := by
  cases es with
  | nil => exact ⟨.nils, .inl rfl⟩
  | cons x l => exact ⟨_, rfl⟩
section
variable {P : Program} {f : FuncId} {m k : Nat} {new : Rows} {v a : AV} {s1 s2 : Nat} {o q : List (List AV)} {l post : List AV}
theorem cargs2 {F : Nat → Prop} {w : World} {args : Array Value} (ha : CArgs F w (a :: .agg (.ros s1 o :: .ros s2 q :: l) :: post) args) : ∃ oV qV, isSl s1 oV o ∧ isSl s2 qV q ∧ CArgs F w (a :: .agg (oV :: qV :: l) :: post) args := by
  obtain ⟨oV, qV, h1, h2, h3⟩ := agg2_vr (ha.2 1 _ rfl)
  refine ⟨oV, qV, h1, h2, ha.1, fun j x hx => ?_⟩
  match j, hx with
  | 0, hx => exact ha.2 0 x (by simpa using hx)
  | 1, hx => simp at hx; subst hx; exact h3
  | j + 2, hx => exact ha.2 (j + 2) x (by simpa using hx)
theorem RCall.emp2 (h : ∀ oV qV, isSl s1 oV o → isSl s2 qV q → RCall P f (a :: .agg (oV :: qV :: l) :: post) k m new v) : RCall P f (a :: .agg (.ros s1 o :: .ros s2 q :: l) :: post) k m new v := by
  obtain ⟨o0, h1⟩ := isSl_any s1 o
  obtain ⟨q0, h2⟩ := isSl_any s2 q
  refine ⟨(h _ _ h1 h2).enter, (h _ _ h1 h2).rng, fun F w args ho ha => ?_⟩
  obtain ⟨oV, qV, k1, k2, k3⟩ := cargs2 ha
  exact (h _ _ k1 k2).run F w args ho k3
theorem PCall.emp2 (h : ∀ oV qV, isSl s1 oV o → isSl s2 qV q → PCall P f (a :: .agg (oV :: qV :: l) :: post) v) : PCall P f (a :: .agg (.ros s1 o :: .ros s2 q :: l) :: post) v := by
  obtain ⟨o0, h1⟩ := isSl_any s1 o
  obtain ⟨q0, h2⟩ := isSl_any s2 q
  refine ⟨(h _ _ h1 h2).enter, fun F w args ho ha => ?_⟩
  obtain ⟨oV, qV, k1, k2, k3⟩ := cargs2 ha
  exact (h _ _ k1 k2).run F w args ho k3
end

def dfrE (n0 : Nat) (rv : List RV) (o : AO) (s' : Store) (e : Env) (x : AX) (_ : Env) (s3 : Store) : Prop := (x = .normal ∨ x = .ret) ∧ ∃ e', Wk n0 e s3 e' s' ∧ rvsC e' s' rv ∧ o = .ret (tupV (rv.map (rvV e' s')))
theorem dfrG_eq {P : Program} {n0 : Nat} {rv : List RV} {o : AO} {s' : Store} {qG : RQ} {t1 t2 : Nat} {ys : List AV} {v : AV} {e : Env} {s : Store} :
    dfrG P n0 rv o s' qG t1 t2 ys v e s = rwp P s.nx qG (dfrE n0 rv o s' e) (put (put (argE 0 ys) (some t1) v) (some t2) v) s := rfl
theorem dfr_end {rv : List RV} {v : AV} {x : AX} {e e' e2 : Env} {s : Store} (hx : x = .normal ∨ x = .ret) (h0 : rvE rv v = some e') (h1 : cvAll s.rows e e') (h2 : rvsC e' ⟨0, []⟩ rv) (h3 : tupV (rv.map (rvV e' ⟨0, []⟩)) = v) :
    dfrE 0 rv (.ret v) ⟨0, []⟩ e x e2 s := ⟨hx, outQ_frz h0 h1 h2 h3⟩
theorem map_self {α : Type} {f : α → α} : ∀ {l : List α}, (∀ x ∈ l, f x = x) → l.map f = l
  | [], _ => rfl
  | x :: l, h => by rw [List.map_cons, h x List.mem_cons_self, map_self fun y hy => h y (List.mem_cons_of_mem _ hy)]
theorem one_roe {sz : Nat} : (AV.roe sz).one = True := rfl
theorem le0 {n : Nat} : (n + 1 ≤ 0) = False := by simp
theorem outQ_ret {rv : List RV} {v : AV} {e e' : Env} {s s1 : Store} {n0 : Nat} (h0 : rvE rv v = some e') (h1 : Wk n0 e s e' s1) (h2 : rvsC e' s1 rv) (h3 : tupV (rv.map (rvV e' s1)) = v) : outQ n0 rv (.ret v) s1 .ret e s := ⟨e', h1, h2, by rw [h3]⟩
/-- Rows by new numbers, that are found on the way. -/
def rhoA (a b c : Nat) : Nat → Nat
  | 0 => a
  | 1 => b
  | 2 => c
  | n + 3 => n + 3
theorem rhoA_0 {a b c : Nat} : rhoA a b c 0 = a := rfl
theorem rhoA_1 {a b c : Nat} : rhoA a b c 1 = b := rfl
theorem rhoA_2 {a b c : Nat} : rhoA a b c 2 = c := rfl
theorem Wk.renA {a b c : Nat} {e e' : Env} {s s' : Store} (Z : Nat → Bool) (he : envAll s.rows Z (rhoA a b c) s'.nx e e') (hr : rowsAll s.rows Z (rhoA a b c) s'.nx s'.rows)
    (hinj : ∀ q ∈ s'.rows, ∀ q' ∈ s'.rows, rhoA a b c q.1 = rhoA a b c q'.1 → q.1 = q'.1) : Wk 0 e s e' s' := Wk.ren Z _ (Nat.zero_le _) (fun i hi => absurd hi (Nat.not_lt_zero _)) he hr hinj
/-- Values that lie in no row are as they were by whatever number. -/
theorem sh_cl {v : AV} (h : Cl v) (k : Nat) : v.sh k = v := by
  induction h with
  | any => rfl
  | bool b => rfl
  | int kk n => rfl
  | str s => rfl
  | nilp => rfl
  | nils => rfl
  | nilf => rfl
  | nili => rfl
  | nilm => rfl
  | agg cs h ih => simp only [AV.sh, shL_map, AV.agg.injEq]; exact map_self ih
  | tup cs h ih => simp only [AV.sh, shL_map, AV.tup.injEq]; exact map_self ih
  | ros sz es h ih => simp only [AV.sh, shLL_map, AV.ros.injEq, true_and]; exact map_self fun x hx => map_self (ih x hx)
  | rop cs h ih => simp only [AV.sh, shL_map, AV.rop.injEq]; exact map_self ih
  | fn f xs ys h1 h2 ih1 ih2 => simp only [AV.sh, shL_map, AV.fn.injEq, true_and]; exact ⟨map_self ih1, map_self ih2⟩
  | ifc t v h ih => simp only [AV.sh, ih]
  | roe sz => rfl
  | opt t v h ih => simp only [AV.sh, ih]
theorem shLL_cl {es : List (List AV)} (h : ∀ x ∈ es, ∀ c ∈ x, Cl c) (k : Nat) : shLL k es = es := by
  rw [shLL_map]; exact map_self fun x hx => map_self fun c hc => sh_cl (h x hx c hc) k
theorem accV_sh {id sz k : Nat} {es : List (List AV)} : (accV id sz es).sh k = accV (id + k) sz es := by cases es <;> rfl
theorem accR_sh {id sz k : Nat} {es : List (List AV)} (h : ∀ x ∈ es, ∀ c ∈ x, Cl c) : shR k (accR id sz es) = accR (id + k) sz es := by
  cases es with
  | nil => rfl
  | cons x l => simp only [accR, shR, shLL_cl h]
theorem shR_append {k : Nat} {a b : Rows} : shR k (a ++ b) = shR k a ++ shR k b := by
  induction a with
  | nil => rfl
  | cons x l ih => obtain ⟨i, r⟩ := x; simp only [List.cons_append, shR, ih]
end Go.Proofs.YtggmkfagcjdifaaDoor.Ai
set_option linter.unusedSimpArgs false
set_option linter.unusedVariables false
namespace Go.Proofs.YtggmkfagcjdifaaDoor.Ai
set_option linter.unusedSimpArgs false
set_option linter.unusedVariables false
set_option linter.unnecessarySimpa false
set_option linter.unusedSectionVars false

theorem drop_at {α : Type} {ws : List α} {j : Nat} {x : α} (h : ws[j]? = some x) : ws.drop j = x :: ws.drop (j + 1) := by
  obtain ⟨hj, rfl⟩ := List.getElem?_eq_some_iff.1 h
  exact List.drop_eq_getElem_cons hj
theorem ld_at {α : Type} {f : α → AV} {ws : List α} {j : Nat} {x : α} (h : ws[j]? = some x) : ((ws.map f).drop j).take 1 = [f x] := by
  rw [← List.map_drop, drop_at h]; rfl
theorem hd_at {α : Type} {f : α → AV} {ws : List α} {j : Nat} {x : α} (h : ws[j]? = some x) : ((ws.map f).drop j).headD .any = f x := by
  rw [← List.map_drop, drop_at h]; rfl
theorem st_at {α : Type} {f : α → AV} {ws : List α} {j : Nat} (h : j < ws.length) (y : α) : splice (ws.map f) j [f y] = (ws.set j y).map f := by
  simp only [splice, List.length_singleton, ← List.map_take, ← List.map_drop]
  rw [List.set_eq_take_append_cons_drop, if_pos h]
  simp
theorem st_at' {α : Type} {f : α → AV} {ws : List α} {j : Nat} {v : AV} (h : j < ws.length) (y : α) (hv : v = f y) : (ws.map f).take j ++ [v] ++ (ws.map f).drop (j + 1) = (ws.set j y).map f := by
  subst hv; exact st_at h y
theorem inc64 {k : Nat} (h : k < 2 ^ 62) : IntKind.i64.wrap ((k : Int) + 1) = (k : Int) + 1 := IntWalk.i64_in _ (by omega)
theorem lt_get {α : Type} {xs : List α} {k : Nat} (h : k < xs.length) : ∃ x, xs[k]? = some x := ⟨_, List.getElem?_eq_getElem h⟩
theorem dlt {k n : Nat} (h : k < n) : decide ((k : Int) < (n : Int)) = true := by simp [h]
theorem dge {k n : Nat} (h : n ≤ k) : decide ((k : Int) < (n : Int)) = false := by simp; omega
theorem dltL {k : Nat} {n : Int} (h : (k : Int) < n) : decide ((k : Int) < n) = true := by simp [h]
theorem dgeL {k : Nat} {n : Int} (h : n ≤ (k : Int)) : decide ((k : Int) < n) = false := by simp; omega
theorem forall_rep {n : Nat} {x : AV} {P : AV → Prop} (h : n ≠ 0) : (∀ v, v ∈ rep n x → P v) = P x := by
  unfold rep
  refine propext ⟨fun h2 => h2 x (by simp [List.mem_replicate, h]), fun h2 v hv => ?_⟩
  obtain rfl := (List.mem_replicate.1 hv).2; exact h2
theorem all2_cl {rows : Rows} {Z : Nat → Bool} {rho : Nat → Nat} : ∀ {l : List AV}, (∀ v ∈ l, Cl v) → All2 (Cv rows Z rho) l l
  | [], _ => trivial
  | x :: l, h => ⟨cv_closed (h x (by simp)), all2_cl fun v hv => h v (List.mem_cons_of_mem _ hv)⟩
theorem rep_map {α : Type} {f : α → AV} {n : Nat} {x : α} : rep n (f x) = (List.replicate n x).map f := by unfold rep; rw [List.map_replicate]
theorem i64_id {n : Int} (h1 : -9223372036854775808 ≤ n) (h2 : n ≤ 9223372036854775807) : IntKind.i64.wrap n = n := IntWalk.i64_in n (by omega)
theorem i64_nat {n : Nat} (h : n ≤ 9223372036854775807) : IntKind.i64.wrap (n : Int) = (n : Int) := i64_id (by omega) (by omega)
theorem take_all {α : Type} {p : α → Bool} {xs : List α} {k : Nat} {x : α} (hx : xs[k]? = some x) : (xs.take (k + 1)).all p = ((xs.take k).all p && p x) := by
  simp [List.take_add_one, hx]
theorem all_false {α : Type} {p : α → Bool} {xs : List α} {k : Nat} {x : α} (hx : xs[k]? = some x) (h : p x = false) : xs.all p = false := by
  rw [Bool.eq_false_iff]; intro h2
  have := List.all_eq_true.1 h2 x (List.mem_of_getElem? hx)
  rw [h] at this; cases this
/-- A quotient by a constant, kept whole. -/
theorem div64 (k : Nat) (c : Int) (hc : 0 < c) (h : k < 2 ^ 62) : ∃ q : Nat, (q : Int) = (k : Int) / c ∧ IntKind.i64.wrap ((k : Int).tdiv c) = (q : Int) := by
  obtain ⟨d, rfl⟩ := Int.eq_ofNat_of_zero_le (Int.le_of_lt hc)
  refine ⟨k / d, by simp, ?_⟩
  rw [Int.tdiv_eq_ediv_of_nonneg (by omega), show (k : Int) / (d : Int) = ((k / d : Nat) : Int) from by simp]
  have h2 : k / d ≤ k := Nat.div_le_self k d
  generalize k / d = q at h2
  exact IntWalk.i64_in _ (by omega)
theorem mod64 (k : Nat) (c : Int) (hc : 0 < c) : ∃ q : Nat, (q : Int) = (k : Int) % c ∧ (k : Int).tmod c = (q : Int) := by
  obtain ⟨d, rfl⟩ := Int.eq_ofNat_of_zero_le (Int.le_of_lt hc)
  exact ⟨k % d, by simp, by simp [Int.tmod_eq_emod_of_nonneg]⟩
end Go.Proofs.YtggmkfagcjdifaaDoor.Ai
set_option linter.unusedSimpArgs false
set_option linter.unusedVariables false
namespace Go.Proofs.YtggmkfagcjdifaaDoor.Ai
set_option linter.unusedSimpArgs false
set_option linter.unusedVariables false
set_option linter.unnecessarySimpa false
set_option linter.unusedSectionVars false

mutual
def AV.rn (k : Nat → Nat) : AV → AV
  | .agg cs => .agg (rnL k cs)
  | .tup cs => .tup (rnL k cs)
  | .ros sz es => .ros sz (rnLL k es)
  | .rop cs => .rop (rnL k cs)
  | .sl id sz i n c => .sl (k id) sz i n c
  | .pt id sz i o => .pt (k id) sz i o
  | .fn f xs ys => .fn f (rnL k xs) (rnL k ys)
  | .ifc t v => .ifc t (v.rn k)
  | .opt t v => .opt t (v.rn k)
  | .any => .any
  | .bool b => .bool b
  | .int i n => .int i n
  | .str s => .str s
  | .nilp => .nilp
  | .nils => .nils
  | .nilf => .nilf
  | .nili => .nili
  | .nilm => .nilm
  | .roe sz => .roe sz
def rnL (k : Nat → Nat) : List AV → List AV
  | [] => []
  | x :: l => x.rn k :: rnL k l
def rnLL (k : Nat → Nat) : List (List AV) → List (List AV)
  | [] => []
  | x :: l => rnL k x :: rnLL k l
end
def rnR (k : Nat → Nat) : Rows → Rows
  | [] => []
  | (id, r) :: l => (k id, ⟨r.sz, rnLL k r.es⟩) :: rnR k l
def rnO (k : Nat → Nat) : AO → AO
  | .ret v => .ret (v.rn k)
  | .pan v => .pan (v.rn k)

theorem rnL_map (k : Nat → Nat) : ∀ l, rnL k l = l.map (AV.rn k)
  | [] => rfl
  | x :: l => by simp [rnL, rnL_map k l]
theorem rnLL_map (k : Nat → Nat) : ∀ l, rnLL k l = l.map (List.map (AV.rn k))
  | [] => rfl
  | x :: l => by simp [rnLL, rnLL_map k l, rnL_map]
theorem look_rnR (k : Nat → Nat) : ∀ (l : Rows) (id : Nat) (r : Row), look (rnR k l) id = some r → ∃ i r0, k i = id ∧ look l i = some r0 ∧ r = ⟨r0.sz, rnLL k r0.es⟩
  | [], id, r, h => by simp [rnR, look] at h
  | (i, q) :: l, id, r, h => by
    simp only [rnR, look_cons] at h
    split at h
    · rename_i hid; cases h
      exact ⟨i, q, hid.symm, by simp [look_cons], rfl⟩
    · rename_i hid
      obtain ⟨j, r0, h1, h2, h3⟩ := look_rnR k l id r h
      exact ⟨j, r0, h1, by rw [look_cons, if_neg (by rintro rfl; exact hid h1.symm)]; exact h2, h3⟩

section
variable {F : Nat → Prop} {w : World} {p : Place} {D : Nat → Prop}
theorem VR.rn {p2 : Place} {D2 : Nat → Prop} {s : Nat → Nat} (hp : ∀ i, D i → p2 (s i) = p i) (hD : ∀ i, D i → D2 (s i)) {v : AV} {u : Value} (h : VR F w p D v u) : VR F w p2 D2 (v.rn s) u := by
  have get : ∀ {cs : List AV} {j : Nat} {v : AV}, (cs.map (AV.rn s))[j]? = some v → ∃ v0, cs[j]? = some v0 ∧ v = v0.rn s := fun h => by
    simp only [List.getElem?_map, Option.map_eq_some_iff] at h
    obtain ⟨v0, h1, h2⟩ := h
    exact ⟨v0, h1, h2.symm⟩
  induction h with
  | any u => exact .any u
  | bool b => exact .bool b
  | int k n => exact .int k n
  | str s => exact .str s
  | nilp => exact .nilp
  | nils => exact .nils
  | nilf => exact .nilf
  | nili => exact .nili
  | agg cs us hs h ih => simp only [AV.rn, rnL_map]; exact .agg _ us (by simpa using hs) fun j v hj => by obtain ⟨v0, h1, rfl⟩ := get hj; exact ih j v0 h1
  | tup cs us hs h ih => simp only [AV.rn, rnL_map]; exact .tup _ us (by simpa using hs) fun j v hj => by obtain ⟨v0, h1, rfl⟩ := get hj; exact ih j v0 h1
  | rosNil sz => exact .rosNil sz
  | rosEmp sz a cap => exact .rosEmp sz a cap
  | ros sz es b o cap c t fz hb hFb hcap hsz hr h ih =>
    simp only [AV.rn, rnLL_map]
    have := VR.ros (F := F) (w := w) (p := p2) (D := D2) sz (es.map (List.map (AV.rn s))) b o cap c t fz hb hFb (by simpa using hcap) (fun x hx => by obtain ⟨y, hy, rfl⟩ := List.mem_map.1 hx; simpa using hsz y hy) (by simpa using hr)
      (fun i x j v hx hj => by
        simp only [List.getElem?_map, Option.map_eq_some_iff] at hx
        obtain ⟨x0, hx0, rfl⟩ := hx
        obtain ⟨v0, h1, rfl⟩ := get hj
        exact ih i x0 j v0 hx0 h1)
    simpa using this
  | rop cs b o c t fz hb hFb hr h ih => simp only [AV.rn, rnL_map]; exact .rop _ b o c t fz hb hFb (by simpa using hr) fun j v hj => by obtain ⟨v0, h1, rfl⟩ := get hj; exact ih j v0 h1
  | sl id sz i n k a cap hid hn hk ha =>
    simp only [AV.rn]
    refine .sl _ sz i n k a cap (hD _ hid) hn hk ?_
    rw [hp _ hid]; exact ha
  | pt id sz i off hid => simp only [AV.rn]; rw [← hp _ hid]; exact .pt _ sz i off (hD _ hid)
  | fn f xs ys us vs h1 h2 h3 h4 ih3 ih4 =>
    simp only [AV.rn, rnL_map]
    exact .fn f _ _ us vs (by simpa using h1) (by simpa using h2) (fun j v hj => by obtain ⟨v0, h1, rfl⟩ := get hj; exact ih3 j v0 h1) (fun j v hj => by obtain ⟨v0, h1, rfl⟩ := get hj; exact ih4 j v0 h1)
  | ifc t v u h ih => exact .ifc t _ u ih
  | nilm => exact .nilm
  | roe sz a cap => exact .roe sz a cap
  | opt t v u h1 h2 ih => exact .opt t _ u ih h2

theorem RowOK.rn {p2 : Place} {D2 : Nat → Prop} {s : Nat → Nat} (hp : ∀ i, D i → p2 (s i) = p i) (hD : ∀ i, D i → D2 (s i)) {r : Row} {b o : Nat} (h : RowOK F w p D r b o) : RowOK F w p2 D2 ⟨r.sz, rnLL s r.es⟩ b o := by
  obtain ⟨⟨c, t, fz, hb, hf, hr, hv⟩, hz⟩ := h
  refine ⟨⟨c, t, fz, hb, hf, by simpa [rnLL_map] using hr, fun i x j v hx hj => ?_⟩, fun x hx => ?_⟩
  · simp only [rnLL_map, List.getElem?_map, Option.map_eq_some_iff] at hx
    obtain ⟨x0, hx0, rfl⟩ := hx
    simp only [List.getElem?_map, Option.map_eq_some_iff] at hj
    obtain ⟨v0, hj0, rfl⟩ := hj
    exact (hv i x0 j v0 hx0 hj0).rn hp hD
  · simp only [rnLL_map, List.mem_map] at hx
    obtain ⟨y, hy, rfl⟩ := hx
    simpa using hz y hy
end

def minus (Z : Nat → Bool) (ids : List Nat) : Rows → Rows
  | [] => []
  | (k, r) :: l => bif Z k || ids.contains k then minus Z ids l else (k, r) :: minus Z ids l
theorem look_minus (Z : Nat → Bool) (ids : List Nat) : ∀ (rows : Rows) (id : Nat) (r : Row), look (minus Z ids rows) id = some r → look rows id = some r ∧ Z id = false ∧ ids.contains id = false
  | [], id, r, h => by simp [minus, look] at h
  | (k, q) :: l, id, r, h => by
    simp only [minus] at h
    cases hz : (Z k || ids.contains k) with
    | true =>
      rw [hz] at h
      obtain ⟨h1, h2, h3⟩ := look_minus Z ids l id r h
      refine ⟨?_, h2, h3⟩
      rw [look_cons, if_neg]
      · exact h1
      · rintro rfl; rw [h2, h3] at hz; cases hz
    | false =>
      rw [hz] at h
      simp only [cond_false, look_cons] at h ⊢
      split at h
      · rename_i he; subst he; cases h
        rw [if_pos rfl]
        exact ⟨rfl, (Bool.or_eq_false_iff.1 hz).1, (Bool.or_eq_false_iff.1 hz).2⟩
      · rename_i he
        rw [if_neg he]
        exact look_minus Z ids l id r h

def rhoX (m n : Nat) (rho : Nat → Nat) (i : Nat) : Nat := bif decide (i < m) then rho i else n + (i - m)
def ids (rho : Nat → Nat) : Rows → List Nat
  | [] => []
  | (k, _) :: l => rho k :: ids rho l
theorem mem_ids {rho : Nat → Nat} : ∀ {rows : Rows} {id : Nat} {r : Row}, look rows id = some r → rho id ∈ ids rho rows
  | [], id, r, h => by simp [look] at h
  | (k, q) :: l, id, r, h => by
    simp only [look_cons] at h
    simp only [ids, List.mem_cons]
    split at h
    · rename_i he; subst he; exact .inl rfl
    · exact .inr (mem_ids h)
theorem ids_mem {rho : Nat → Nat} : ∀ {rows : Rows} {x : Nat}, x ∈ ids rho rows → ∃ q ∈ rows, x = rho q.1
  | [], x, h => by simp [ids] at h
  | (k, q) :: l, x, h => by
    simp only [ids, List.mem_cons] at h
    rcases h with rfl | h
    · exact ⟨(k, q), by simp, rfl⟩
    · obtain ⟨y, hy, rfl⟩ := ids_mem h
      exact ⟨y, List.mem_cons_of_mem _ hy, rfl⟩

/-- THE FRAME: a call in a store of its own rows, in a store that holds them by other numbers. Rows of Z are never written again. -/
theorem SCall.fr {P : Program} {f : FuncId} {xs xs0 : List AV} {m : Nat} {rows0 : Rows} {o : AO} {s s0' : Store} (Z : Nat → Bool) (rho : Nat → Nat)
    (h : SCall P f xs0 ⟨m, rows0⟩ o s0') (hlen : xs0.length = xs.length)
    (hx : ∀ (j : Nat) (c d : AV), xs[j]? = some c → xs0[j]? = some d → Cv s.rows Z rho c d ∧ Bel m d)
    (hr : rowsAll s.rows Z rho m rows0)
    (hinj : ∀ q ∈ rows0, ∀ q' ∈ rows0, rho q.1 = rho q'.1 → q.1 = q'.1)
    (hlt : ∀ i, i < m → rho i < s.nx)
    (hinj' : ∀ q ∈ s0'.rows, ∀ q' ∈ s0'.rows, rhoX m s.nx rho q.1 = rhoX m s.nx rho q'.1 → q.1 = q'.1) :
    SCall P f xs s (rnO (rhoX m s.nx rho) o) ⟨s.nx + (s0'.nx - m), rnR (rhoX m s.nx rho) s0'.rows ++ minus Z (ids rho rows0) s.rows⟩ := by
  refine ⟨h.enter, fun F w p args hs ha => ?_⟩
  have hV : ∀ {v v' : AV} {u : Value}, Cv s.rows Z rho v v' → Bel m v' → VR F w p (fun i => i < s.nx) v u → VR (frozenIn F p s.rows Z) w (p ∘ rho) (fun i => i < m) v' u := fun hc hb hv =>
    (VR.cv (D' := fun i => rho i < s.nx) hs (fun _ h => h) hc hv).bel' hb
  have hl : ∀ id r, look rows0 id = some r → id < m ∧ ∃ r0, look s.rows (rho id) = some r0 ∧ Z (rho id) = false ∧ r.sz = r0.sz ∧ All2 (All2 (Cv s.rows Z rho)) r0.es r.es ∧ ∀ x ∈ r.es, ∀ v ∈ x, Bel m v := fun id r h => by
    obtain ⟨h1, hz, h2⟩ := rowsAll_mem hr _ (look_mem h)
    refine ⟨h1, ?_⟩
    cases hl : look s.rows (rho id) with
    | none => simp only [hl] at h2; exact h2.elim
    | some r0 => simp only [hl] at h2; exact ⟨r0, rfl, hz, h2.1, h2.2.1, h2.2.2⟩
  have hs0 : SRel (frozenIn F p s.rows Z) w (p ∘ rho) (fun i => i < m) rows0 := by
    refine ⟨fun id r h => ?_, fun id id' r r' h h' hne => ?_, hs.frozen⟩
    · obtain ⟨h1, r0, h2, h3, h4, h5, h6⟩ := hl id r h
      obtain ⟨g1, g2, ⟨⟨c, t, fz, hb, hf, hrr, hv⟩, hz⟩⟩ := hs.row _ r0 h2
      refine ⟨h1, ?_, ⟨⟨c, t, fz, hb, hf, by rw [h4, all2_len h5]; exact hrr, fun i y j d hy hd => ?_⟩, fun y hy => ?_⟩⟩
      · rintro (h | ⟨id1, r1, k1, k2, k3⟩)
        · exact g2 h
        · by_cases h9 : rho id = id1
          · subst h9; rw [h3] at k1; cases k1
          · exact hs.apart _ _ _ _ h2 k2 h9 k3.symm
      · have hx : i < r0.es.length := by rw [← all2_len h5]; exact (List.getElem?_eq_some_iff.1 hy).1
        have h9 := all2_get h5 i _ y (List.getElem?_eq_getElem hx) hy
        have hj : j < (r0.es[i]).length := by rw [← all2_len h9]; exact (List.getElem?_eq_some_iff.1 hd).1
        rw [h4]
        exact hV (all2_get h9 j _ d (List.getElem?_eq_getElem hj) hd) (h6 y (List.mem_of_getElem? hy) d (List.mem_of_getElem? hd)) (hv i _ j _ (List.getElem?_eq_getElem hx) (List.getElem?_eq_getElem hj))
      · obtain ⟨i, hi, rfl⟩ := List.getElem_of_mem hy
        have hx : i < r0.es.length := by rw [← all2_len h5]; exact hi
        rw [all2_len (all2_get h5 i _ _ (List.getElem?_eq_getElem hx) (List.getElem?_eq_getElem hi)), h4]
        exact hz _ (List.getElem_mem hx)
    · obtain ⟨_, r0, h2, _⟩ := hl id r h
      obtain ⟨_, r0', h2', _⟩ := hl id' r' h'
      exact hs.apart _ _ _ _ h2 h2' fun e => hne (hinj _ (look_mem h) _ (look_mem h') e)
  have ha0 : CellsOK (frozenIn F p s.rows Z) w (p ∘ rho) (fun i => i < m) xs0 args := by
    refine ⟨ha.1.trans hlen.symm, fun j d hd => ?_⟩
    have hj : j < xs.length := by rw [← hlen]; exact (List.getElem?_eq_some_iff.1 hd).1
    obtain ⟨h1, h2⟩ := hx j _ d (List.getElem?_eq_getElem hj) hd
    exact hV h1 h2 (ha.2 j _ (List.getElem?_eq_getElem hj))
  refine Calls.mono (h.run _ w _ args hs0 ha0) ?_
  rintro e w' ⟨F', p0', ho, hs', hev⟩
  obtain ⟨m', rows0'⟩ := s0'
  have hmm : m ≤ m' := hev.nx
  simp only at hs' hev ho hinj' ⊢
  obtain ⟨pn, hp', hpk⟩ : ∃ pn : Place, (∀ i, i < m' → pn (rhoX m s.nx rho i) = p0' i) ∧ (∀ i, i < s.nx → pn i = p i) := by
    refine ⟨fun j => if j < s.nx then p j else p0' (j - s.nx + m), fun i hi => ?_, fun i hi => if_pos hi⟩
    simp only [rhoX]
    by_cases him : i < m
    · have h9 : p0' i = (p ∘ rho) i := hev.keep i him
      simp only [him, decide_true, cond_true, if_pos (hlt i him), h9, Function.comp]
    · simp only [him, decide_false, cond_false]
      rw [if_neg (by omega), show s.nx + (i - m) - s.nx + m = i from by omega]
  have hD' : ∀ i, i < m' → rhoX m s.nx rho i < s.nx + (m' - m) := by
    intro i hi
    simp only [rhoX]
    by_cases him : i < m
    · have := hlt i him
      simp only [him, decide_true, cond_true]; omega
    · simp only [him, decide_false, cond_false]; omega
  have hrow : ∀ b, RowAt (p ∘ rho) ⟨m, rows0⟩ b → ∃ id r0, look s.rows id = some r0 ∧ (p id).1 = b ∧ Z id = false ∧ id ∈ ids rho rows0 := by
    rintro b ⟨id, r, h1, h2⟩
    obtain ⟨_, r0, h3, h4, _⟩ := hl id r h1
    exact ⟨rho id, r0, h3, h2, h4, mem_ids h1⟩
  have hrest : ∀ id r, look s.rows id = some r → (ids rho rows0).contains id = false → ¬ RowAt (p ∘ rho) ⟨m, rows0⟩ (p id).1 := by
    intro id r h1 h2 h3
    obtain ⟨id', r0, k1, k2, k3, k4⟩ := hrow _ h3
    by_cases he : id' = id
    · subst he; simp [k4] at h2
    · exact hs.apart _ _ _ _ k1 h1 he k2
  have hzrow : ∀ b, frozenIn F p s.rows Z b → ¬ RowAt (p ∘ rho) ⟨m, rows0⟩ b := by
    rintro b hb ⟨id, r, h1, rfl⟩
    exact (hs0.row id r h1).2.1 hb
  have hpl : ∀ b, RowAt p0' ⟨m', rows0'⟩ b → w.heap.size ≤ b ∨ ∃ id r0, look s.rows id = some r0 ∧ (p id).1 = b ∧ Z id = false ∧ id ∈ ids rho rows0 := fun b hb => (hev.rows b hb).imp id (hrow b)
  have hsz : ∀ id r, look s.rows id = some r → (p id).1 < w.heap.size := fun id r h1 => by
    obtain ⟨_, _, ⟨⟨c, t, fz, hb, _⟩, _⟩⟩ := hs.row id r h1
    exact lt_of_heap hb
  -- values that stood, in the rows that are left
  have hold : ∀ {v : AV} {u : Value}, VR F w p (fun i => i < s.nx) v u → VR F' w' pn (fun i => i < s.nx + (m' - m)) v u := fun hv =>
    hv.mono (fun b hb => hev.inF b (.inl hb)) (fun b hb => hev.same b (hs.old b hb) (hzrow b (.inl hb))) hev.cells hpk (fun i hi => by omega)
  refine ⟨F', pn, ?_, ⟨fun id r hl1 => ?_, fun id id' r r' hl1 hl2 hne => ?_, hs'.old⟩, ?_⟩
  · cases ho with
    | ret v u hv => exact .ret _ u (hv.rn hp' hD')
    | pan v u hv => exact .pan _ u (hv.rn hp' hD')
  · rw [look_append] at hl1
    cases h1 : look (rnR (rhoX m s.nx rho) rows0') id with
    | some r1 =>
      rw [h1] at hl1; cases hl1
      obtain ⟨i, r0, rfl, h3, rfl⟩ := look_rnR _ _ _ _ h1
      obtain ⟨g1, g2, g3⟩ := hs'.row i r0 h3
      rw [hp' i g1]
      exact ⟨hD' i g1, g2, g3.rn hp' hD'⟩
    | none =>
      rw [h1] at hl1
      simp only at hl1
      obtain ⟨h2, h3, h4⟩ := look_minus _ _ _ _ _ hl1
      obtain ⟨g1, g2, ⟨⟨c, t, fz, hb, hf, hrr, hv⟩, hz⟩⟩ := hs.row id r h2
      have g1 : id < s.nx := g1
      have hna := hrest id r h2 h4
      rw [hpk id g1]
      refine ⟨by omega, fun hF' => ?_, ⟨⟨c, t, fz, (hev.same _ (hsz id r h2) hna).trans hb, hf, hrr, fun i x j v hx hj => hold (hv i x j v hx hj)⟩, hz⟩⟩
      rcases hev.newF _ hF' with h5 | h5 | h5
      · rcases h5 with h5 | ⟨id1, r1, k1, k2, k3⟩
        · exact g2 h5
        · by_cases he : id1 = id
          · subst he; rw [h3] at k1; cases k1
          · exact hs.apart _ _ _ _ k2 h2 he k3
      · have := hsz id r h2; omega
      · exact hna h5
  · have hnew : ∀ i r0, look rows0' i = some r0 → RowAt p0' ⟨m', rows0'⟩ (p0' i).1 := fun i r0 h => ⟨i, r0, h, rfl⟩
    have mixd : ∀ i r0 id r, look rows0' i = some r0 → look s.rows id = some r → (ids rho rows0).contains id = false → (p0' i).1 ≠ (p id).1 := by
      intro i r0 id r h1 h2 h3 he
      rcases hpl _ (hnew i r0 h1) with h4 | ⟨id', r1, k1, k2, k3, k4⟩
      · have := hsz id r h2; omega
      · by_cases h5 : id' = id
        · subst h5; simp [k4] at h3
        · exact hs.apart _ _ _ _ k1 h2 h5 (k2.trans he)
    rw [look_append] at hl1 hl2
    cases h1 : look (rnR (rhoX m s.nx rho) rows0') id with
    | some r1 =>
      obtain ⟨i, r0, rfl, h3, rfl⟩ := look_rnR _ _ _ _ h1
      rw [hp' i (hs'.row i r0 h3).1]
      cases h2 : look (rnR (rhoX m s.nx rho) rows0') id' with
      | some r2 =>
        obtain ⟨i', r0', rfl, h3', rfl⟩ := look_rnR _ _ _ _ h2
        rw [hp' i' (hs'.row i' r0' h3').1]
        exact hs'.apart _ _ _ _ h3 h3' fun e => hne (by rw [e])
      | none =>
        rw [h2] at hl2
        obtain ⟨k1, k2, k3⟩ := look_minus _ _ _ _ _ hl2
        rw [hpk id' (hs.row id' r' k1).1]
        exact mixd _ _ _ _ h3 k1 k3
    | none =>
      rw [h1] at hl1
      obtain ⟨k1, k2, k3⟩ := look_minus _ _ _ _ _ hl1
      rw [hpk id (hs.row id r k1).1]
      cases h2 : look (rnR (rhoX m s.nx rho) rows0') id' with
      | some r2 =>
        obtain ⟨i', r0', rfl, h3', rfl⟩ := look_rnR _ _ _ _ h2
        rw [hp' i' (hs'.row i' r0' h3').1]
        exact (mixd _ _ _ _ h3' k1 k3).symm
      | none =>
        rw [h2] at hl2
        obtain ⟨k1', _⟩ := look_minus _ _ _ _ _ hl2
        rw [hpk id' (hs.row id' r' k1').1]
        exact hs.apart _ _ _ _ k1 k1' hne
  · have hsub : ∀ b, RowAt (p ∘ rho) ⟨m, rows0⟩ b → RowAt p s b := fun b hb => by
      obtain ⟨id, r0, k1, k2, _⟩ := hrow b hb; exact ⟨id, r0, k1, k2⟩
    refine ⟨hev.os, hev.tape, hev.output, hev.size, fun b hb hn => hev.same b hb fun h => hn (hsub b h), hev.cells, fun b hb => hev.inF b (.inl hb), fun b hb => ?_, ?_, fun id hid => hpk id hid, by simp only; omega⟩
    · rcases hev.newF b hb with h5 | h5 | h5
      · rcases h5 with h5 | ⟨id1, r1, k1, k2, k3⟩
        · exact .inl h5
        · exact .inr (.inr ⟨id1, r1, k2, k3⟩)
      · exact .inr (.inl h5)
      · exact .inr (.inr (hsub b h5))
    · rintro b ⟨id, r, hl1, rfl⟩
      rw [look_append] at hl1
      cases h1 : look (rnR (rhoX m s.nx rho) rows0') id with
      | some r1 =>
        obtain ⟨i, r0, rfl, h3, rfl⟩ := look_rnR _ _ _ _ h1
        rw [hp' i (hs'.row i r0 h3).1]
        rcases hpl _ ⟨i, r0, h3, rfl⟩ with h4 | ⟨id', r1, k1, k2, _⟩
        · exact .inl h4
        · exact .inr ⟨id', r1, k1, k2⟩
      | none =>
        rw [h1] at hl1
        obtain ⟨k1, k2, k3⟩ := look_minus _ _ _ _ _ hl1
        rw [hpk id (hs.row id r k1).1]
        exact .inr ⟨id, r, k1, rfl⟩

theorem rn_cl {v : AV} (h : Cl v) (k : Nat → Nat) : v.rn k = v := by
  induction h with
  | any => rfl
  | bool b => rfl
  | int kk n => rfl
  | str s => rfl
  | nilp => rfl
  | nils => rfl
  | nilf => rfl
  | nili => rfl
  | nilm => rfl
  | agg cs h ih => simp only [AV.rn, rnL_map]; rw [List.map_congr_left ih]; simp
  | tup cs h ih => simp only [AV.rn, rnL_map]; rw [List.map_congr_left ih]; simp
  | ros sz es h ih => simp only [AV.rn, rnLL_map]; congr 1; conv => rhs; rw [← List.map_id es]
                      exact List.map_congr_left fun x hx => by conv => rhs; rw [id, ← List.map_id x]
                                                               exact List.map_congr_left fun c hc => ih x hx c hc
  | rop cs h ih => simp only [AV.rn, rnL_map]; rw [List.map_congr_left ih]; simp
  | fn f xs ys h1 h2 ih1 ih2 => simp only [AV.rn, rnL_map]; rw [List.map_congr_left ih1, List.map_congr_left ih2]; simp
  | ifc t v h ih => simp only [AV.rn, ih]
  | roe sz => rfl
  | opt t v h ih => simp only [AV.rn, ih]
theorem rnL_cl {l : List AV} (h : ∀ v ∈ l, Cl v) (k : Nat → Nat) : rnL k l = l := by
  rw [rnL_map]; conv => rhs; rw [← List.map_id l]
  exact List.map_congr_left fun x hx => rn_cl (h x hx) k
theorem rnLL_cl {l : List (List AV)} (h : ∀ x ∈ l, ∀ v ∈ x, Cl v) (k : Nat → Nat) : rnLL k l = l := by
  rw [rnLL_map]; conv => rhs; rw [← List.map_id l]
  exact List.map_congr_left fun x hx => by rw [← rnL_map]; exact rnL_cl (h x hx) k
theorem rnR_append (k : Nat → Nat) : ∀ a b : Rows, rnR k (a ++ b) = rnR k a ++ rnR k b
  | [], b => rfl
  | (i, r) :: a, b => by simp [rnR, rnR_append k a b]
def argsCv (rows : Rows) (Z : Nat → Bool) (rho : Nat → Nat) (m : Nat) : List AV → List AV → Prop
  | [], [] => True
  | c :: cs, d :: ds => (Cv rows Z rho c d ∧ Bel m d) ∧ argsCv rows Z rho m cs ds
  | _, _ => False
theorem argsCv_get {rows : Rows} {Z : Nat → Bool} {rho : Nat → Nat} {m : Nat} : ∀ {xs ys : List AV}, argsCv rows Z rho m xs ys → ys.length = xs.length ∧ ∀ (j : Nat) (c d : AV), xs[j]? = some c → ys[j]? = some d → Cv rows Z rho c d ∧ Bel m d
  | [], [], _ => ⟨rfl, fun j c d h => by simp at h⟩
  | c :: cs, d :: ds, h => by
    obtain ⟨h1, h2⟩ := argsCv_get h.2
    refine ⟨by simp [h1], fun j x y hx hy => ?_⟩
    cases j with
    | zero => simp at hx hy; subst hx; subst hy; exact h.1
    | succ j => exact h2 j x y (by simpa using hx) (by simpa using hy)
  | [], _ :: _, h => h.elim
  | _ :: _, [], h => h.elim
def keys : Rows → List Nat
  | [] => []
  | (k, _) :: l => k :: keys l
theorem keys_append : ∀ a b : Rows, keys (a ++ b) = keys a ++ keys b
  | [], b => rfl
  | (i, r) :: a, b => by simp [keys, keys_append a b]
theorem mem_keys {q : Nat × Row} : ∀ {l : Rows}, q ∈ l → q.1 ∈ keys l
  | (k, r) :: l, h => by
    rcases List.mem_cons.1 h with rfl | h
    · simp [keys]
    · simp [keys, mem_keys h]
def injK (rho : Nat → Nat) (ks : List Nat) : Prop := ∀ i ∈ ks, ∀ j ∈ ks, rho i = rho j → i = j
theorem SCall.fA {P : Program} {f : FuncId} {xs xs0 : List AV} {m : Nat} {rows0 : Rows} {o : AO} {s s0' : Store} {K Kp : AV → Store → Prop} {a b c : Nat} (Z : Nat → Bool)
    (h : SCall P f xs0 ⟨m, rows0⟩ o s0') (hx : argsCv s.rows Z (rhoA a b c) m xs xs0) (hr : rowsAll s.rows Z (rhoA a b c) m rows0) (hinj : injK (rhoA a b c) (keys rows0))
    (hlt : ∀ i, i < m → rhoA a b c i < s.nx) (hinj' : injK (rhoX m s.nx (rhoA a b c)) (keys s0'.rows))
    (hK : outK K Kp (rnO (rhoX m s.nx (rhoA a b c)) o) ⟨s.nx + (s0'.nx - m), rnR (rhoX m s.nx (rhoA a b c)) s0'.rows ++ minus Z (ids (rhoA a b c) rows0) s.rows⟩) :
    ∃ o s', SCall P f xs s o s' ∧ outK K Kp o s' :=
  ⟨_, _, SCall.fr Z (rhoA a b c) h (argsCv_get hx).1 (argsCv_get hx).2 hr (fun q hq q' hq' e => hinj _ (mem_keys hq) _ (mem_keys hq') e) hlt (fun q hq q' hq' e => hinj' _ (mem_keys hq) _ (mem_keys hq') e), hK⟩
theorem lt_one {P : Nat → Prop} (h : P 0) : ∀ i, i < 1 → P i
  | 0, _ => h
  | n + 1, h => absurd h (by omega)
theorem lt_two {P : Nat → Prop} (h0 : P 0) (h1 : P 1) : ∀ i, i < 2 → P i
  | 0, _ => h0
  | 1, _ => h1
  | n + 2, h => absurd h (by omega)
theorem lt_three {P : Nat → Prop} (h0 : P 0) (h1 : P 1) (h2 : P 2) : ∀ i, i < 3 → P i
  | 0, _ => h0
  | 1, _ => h1
  | 2, _ => h2
  | n + 3, h => absurd h (by omega)
theorem rhoX_lt {m n : Nat} {rho : Nat → Nat} {i : Nat} (h : i < m) : rhoX m n rho i = rho i := by simp [rhoX, h]
theorem rhoX_ge {m n : Nat} {rho : Nat → Nat} {i : Nat} (h : m ≤ i) : rhoX m n rho i = n + (i - m) := by
  simp only [rhoX, decide_eq_false (Nat.not_lt.2 h), cond_false]
end Go.Proofs.YtggmkfagcjdifaaDoor.Ai
set_option linter.unusedSimpArgs false
set_option linter.unusedVariables false
namespace Go.Proofs.YtggmkfagcjdifaaDoor.Ai
set_option linter.unusedSimpArgs false
set_option linter.unusedVariables false
set_option linter.unnecessarySimpa false
set_option linter.unusedSectionVars false
section
variable {rows R : Rows} {id j q q' sz bytes k nx n : Nat} {z : List AV} {x y : AV} {es es' : List (List AV)} {r : Row} {c : Option Nat} {Z : Nat → Bool} {rho : Nat → Nat} {kk : IntKind} {m : Int}

theorem appC_nils : appC rows sz bytes z .nils y = (elsC rows sz y ∧ (∀ c ∈ elsV rows y, ∀ v ∈ c, v.one) ∧ z.length = sz ∧ (elsV rows y).length * bytes ≤ 140737488355328 ∧ (elsV rows y).length ≤ 9223372036854775807) := by
  simp [appC, lenV]
theorem appC_sl {i : Nat} : appC rows sz bytes z (.sl id q i n c) y = (elsC rows sz y ∧ (∀ c ∈ elsV rows y, ∀ v ∈ c, v.one) ∧ z.length = sz ∧
  (match look rows id with
    | some r => r.sz = q ∧ q = sz ∧ i + n ≤ r.es.length ∧ (c = none → i + n = r.es.length)
    | none => False) ∧ (n + (elsV rows y).length) * bytes ≤ 140737488355328 ∧ n + (elsV rows y).length ≤ 9223372036854775807) := rfl
theorem appC_sln {i : Nat} : appC rows sz bytes z (.sl id q i n none) y = (elsC rows sz y ∧ (∀ c ∈ elsV rows y, ∀ v ∈ c, v.one) ∧ z.length = sz ∧
  (match look rows id with
    | some r => r.sz = q ∧ q = sz ∧ i + n ≤ r.es.length ∧ ((none : Option Nat) = none → i + n = r.es.length)
    | none => False) ∧ (n + (elsV rows y).length) * bytes ≤ 140737488355328 ∧ n + (elsV rows y).length ≤ 9223372036854775807) := rfl
theorem appC_sls {i m : Nat} : appC rows sz bytes z (.sl id q i n (some (m + 1))) y = (elsC rows sz y ∧ (∀ c ∈ elsV rows y, ∀ v ∈ c, v.one) ∧ z.length = sz ∧
  (match look rows id with
    | some r => r.sz = q ∧ q = sz ∧ i + n ≤ r.es.length ∧ (some (m + 1) = none → i + n = r.es.length)
    | none => False) ∧ (n + (elsV rows y).length) * bytes ≤ 140737488355328 ∧ n + (elsV rows y).length ≤ 9223372036854775807) := rfl
theorem appV_nils : appV rows sz k .nils y = if (elsV rows y).length = 0 then .nils else .sl k sz 0 (elsV rows y).length none := rfl
theorem appV_sln {i : Nat} : appV rows sz k (.sl id q i n none) y = .sl k q 0 (n + (elsV rows y).length) none := rfl
theorem appV_sls {i m : Nat} : appV rows sz k (.sl id q i n (some (m + 1))) y = .sl k q 0 (n + (elsV rows y).length) (if n + (elsV rows y).length ≤ m + 1 then some (m + 1) else none) := rfl
theorem appR_nils : appR rows sz k .nils y = if (elsV rows y).length = 0 then rows else (k, ⟨sz, elsV rows y⟩) :: rows := rfl
theorem appR_sl {i : Nat} : appR rows sz k (.sl id q i n c) y = match look rows id with
    | some r => (k, ⟨q, (r.es.drop i).take n ++ elsV rows y ++ appT r.es n (elsV rows y).length i c⟩) :: drop rows id
    | none => rows := rfl

theorem lenV_ros : lenV (.ros q es) = (es.length : Int) := rfl
theorem lenV_sl {i : Nat} : lenV (.sl id q i n c) = (n : Int) := rfl
theorem lenV_nils : lenV .nils = 0 := rfl
theorem lenV_roe : lenV (.roe q) = 0 := rfl
theorem lenC_ros : lenC (.ros q es) = True := rfl
theorem lenC_sl {i : Nat} : lenC (.sl id q i n c) = True := rfl
theorem lenC_nils : lenC .nils = True := rfl
theorem lenC_roe : lenC (.roe q) = True := rfl
theorem iasC_ros : iasC sz (.ros q es) (.int kk m) = (q = sz ∧ 0 ≤ m ∧ m < es.length) := rfl
theorem iasC_sl {i : Nat} : iasC sz (.sl id q i n c) (.int kk m) = (q = sz ∧ 0 ≤ m ∧ m < n) := rfl
theorem iasC_nils : iasC sz .nils (.int kk m) = False := rfl
theorem iasV_ros : iasV (.ros q es) (.int kk m) = .rop (es.getD m.toNat []) := rfl
theorem iasV_sl {i : Nat} : iasV (.sl id q i n c) (.int kk m) = .pt id q (i + m.toNat) 0 := rfl
theorem elsC_ros : elsC rows sz (.ros q es) = (q = sz) := rfl
theorem elsC_nils : elsC rows sz .nils = True := rfl
theorem elsC_roe : elsC rows sz (.roe q) = True := rfl
theorem elsC_sl {i : Nat} : elsC rows sz (.sl id q i n c) = match look rows id with
    | some r => bif r.sz == q then (q = sz ∧ i + n ≤ r.es.length) else (q = 1 ∧ sz = 1 ∧ i + n ≤ r.es.flatten.length)
    | none => False := rfl
theorem elsV_ros : elsV rows (.ros q es) = es := rfl
theorem elsV_nils : elsV rows .nils = [] := rfl
theorem elsV_roe : elsV rows (.roe q) = [] := rfl
theorem elsV_sl {i : Nat} : elsV rows (.sl id q i n c) = match look rows id with
    | some r => bif r.sz == q then (r.es.drop i).take n else ((r.es.flatten.drop i).take n).map fun c => [c]
    | none => [] := rfl
theorem slcSz_ros : slcSz sz (.ros q es) = (q = sz) := rfl
theorem slcSz_sl {i : Nat} : slcSz sz (.sl id q i n c) = (q = sz) := rfl
theorem slcSz_nils : slcSz sz .nils = True := rfl
theorem slcSz_roe : slcSz sz (.roe q) = True := rfl
theorem nilC_nils : nilC .nils = True := rfl
theorem nilC_roe : nilC (.roe q) = True := rfl
theorem nilC_ros : nilC (.ros q es) = (es ≠ []) := rfl
theorem nilC_sl {i : Nat} : nilC (.sl id q i n c) = (0 < n ∨ ∃ m, c = some (m + 1)) := rfl
theorem nilV_nils : nilV .nils = true := rfl
theorem nilV_roe : nilV (.roe q) = false := rfl
theorem nilV_ros : nilV (.ros q es) = false := rfl
theorem nilV_sl {i : Nat} : nilV (.sl id q i n c) = false := rfl
theorem cells_agg {cs : List AV} : AV.cells (.agg cs) = cs := rfl
theorem cells_bool {b : Bool} : AV.cells (.bool b) = [.bool b] := rfl
theorem cells_int : AV.cells (.int kk m) = [.int kk m] := rfl
theorem cells_str {s : ByteArray} : AV.cells (.str s) = [.str s] := rfl
theorem cells_nilp : AV.cells .nilp = [.nilp] := rfl
theorem cells_nils : AV.cells .nils = [.nils] := rfl
theorem cells_nilf : AV.cells .nilf = [.nilf] := rfl
theorem cells_nili : AV.cells .nili = [.nili] := rfl
theorem cells_nilm : AV.cells .nilm = [.nilm] := rfl
theorem cells_ros : AV.cells (.ros q es) = [.ros q es] := rfl
theorem cells_rop {cs : List AV} : AV.cells (.rop cs) = [.rop cs] := rfl
theorem cells_sl {i : Nat} : AV.cells (.sl id q i n c) = [.sl id q i n c] := rfl
theorem cells_pt {i o : Nat} : AV.cells (.pt id q i o) = [.pt id q i o] := rfl
theorem cells_fn {f : Fn} {xs ys : List AV} : AV.cells (.fn f xs ys) = [.fn f xs ys] := rfl
theorem cells_ifc {t : TypeId} {v : AV} : AV.cells (.ifc t v) = [.ifc t v] := rfl
theorem cells_roe : AV.cells (.roe q) = [.roe q] := rfl
theorem cells_tup {cs : List AV} : AV.cells (.tup cs) = [.tup cs] := rfl
theorem cells_any : AV.cells .any = [.any] := rfl
theorem appR_sln {i : Nat} : appR rows sz k (.sl id q i n none) y = match look rows id with
    | some r => (k, ⟨q, (r.es.drop i).take n ++ elsV rows y ++ appT r.es n (elsV rows y).length i none⟩) :: drop rows id
    | none => rows := rfl

theorem appR_sls {i m : Nat} : appR rows sz k (.sl id q i n (some (m + 1))) y = match look rows id with
    | some r => (k, ⟨q, (r.es.drop i).take n ++ elsV rows y ++ appT r.es n (elsV rows y).length i (some (m + 1))⟩) :: drop rows id
    | none => rows := rfl

theorem appT_none {es : List (List AV)} {i m : Nat} : appT es n m i none = [] := rfl
theorem appT_nil {es : List (List AV)} {i m : Nat} (h : es.length ≤ i + n + m) : appT es n m i c = [] := by
  cases c with
  | none => rfl
  | some cap =>
    simp only [appT]
    split
    · exact List.drop_of_length_le h
    · rfl
/-- The row of a slice that grows lies among the rows. -/
def accOK (rows : Rows) (id q : Nat) : List (List AV) → Prop
  | [] => True
  | x :: l => look rows id = some ⟨q, x :: l⟩
theorem accOK_hd : accOK (accR id q es ++ R) id q es = True := by
  cases es with
  | nil => rfl
  | cons x l => simp [accOK, accR, look_cons]
theorem accOK_hd0 : accOK (accR id q es) id q es = True := by
  cases es with
  | nil => rfl
  | cons x l => simp [accOK, accR, look_cons]
theorem accOK_tl (h : (j == id) = false) : accOK ((j, r) :: R) id q es = accOK R id q es := by
  have h : ¬ id = j := fun e => by subst e; simp at h
  cases es with
  | nil => rfl
  | cons x l => simp only [accOK, look_cons, if_neg h]
theorem accOK_acc (h : (j == id) = false) : accOK (accR j q' es' ++ R) id q es = accOK R id q es := by
  cases es' with
  | nil => rfl
  | cons y l => exact accOK_tl h
theorem accOK_lit : accOK ((id, ⟨q, es⟩) :: R) id q es = True := by
  cases es with
  | nil => rfl
  | cons x l => simp [accOK, look_cons]
theorem accOK_nil : accOK rows id q [] = True := rfl
theorem accOK_look : ∀ {es : List (List AV)}, accOK rows id q es → 0 < es.length → look rows id = some ⟨q, es⟩
  | _ :: _, h, _ => h
def dropA (id : Nat) (es : List (List AV)) (rows : Rows) : Rows := match es with
  | [] => rows
  | _ :: _ => drop rows id
theorem dropA_nil : dropA id es [] = [] := by cases es <;> rfl
theorem dropA_cons (h : (j == id) = false) : dropA id es ((j, r) :: R) = (j, r) :: dropA id es R := by
  cases es with
  | nil => rfl
  | cons x l => show (bif j == id then _ else _) = _; rw [h]; rfl
theorem dropA_hd : dropA id es (accR id q es ++ R) = dropA id es R := by
  cases es with
  | nil => rfl
  | cons x l => simp [dropA, accR, drop]
theorem dropA_hd0 : dropA id es (accR id q es) = [] := by
  cases es with
  | nil => rfl
  | cons x l => simp [dropA, accR, drop]
theorem dropA_acc (h : (j == id) = false) : dropA id es (accR j q es' ++ R) = accR j q es' ++ dropA id es R := by
  cases es' with
  | nil => rfl
  | cons x l => exact dropA_cons h
theorem dropA_acc0 (h : (j == id) = false) : dropA id es (accR j q es') = accR j q es' := by
  have := dropA_acc (R := []) (es := es) (es' := es') (q := q) h
  simpa [dropA_nil] using this
theorem drop_acc (h : (j == id) = false) : drop (accR j q es ++ R) id = accR j q es ++ drop R id := by
  cases es with
  | nil => rfl
  | cons x l => show (bif j == id then _ else _) = _; rw [h]; rfl
theorem drop_acc0 (h : (j == id) = false) : drop (accR j q es) id = accR j q es := by
  cases es with
  | nil => rfl
  | cons x l => show (bif j == id then _ else _) = _; rw [h]; rfl
theorem look_acc (h : (j == id) = false) : look (accR j q es ++ R) id = look R id := by
  have h : ¬ id = j := fun e => by subst e; simp at h
  cases es with
  | nil => rfl
  | cons x l => simp only [accR, List.cons_append, List.nil_append, look_cons, if_neg h]
theorem look_hd (h : decide (0 < es.length) = true) : look (accR id q es ++ R) id = some ⟨q, es⟩ := by
  cases es with
  | nil => cases h
  | cons x l => simp [accR, look_cons]
theorem look_hd0 (h : decide (0 < es.length) = true) : look (accR id q es) id = some ⟨q, es⟩ := by
  cases es with
  | nil => cases h
  | cons x l => simp [accR, look_cons]
theorem over_acc {r' : Row} (h : (j == id) = false) : over (accR j q es ++ R) id r' = accR j q es ++ over R id r' := by
  cases es with
  | nil => rfl
  | cons x l => show (bif j == id then _ else _) = _; rw [h]; rfl
theorem low_acc : low nx (accR id q es ++ R) = bif decide (id < nx) then accR id q es ++ low nx R else low nx R := by
  cases es with
  | nil => cases decide (id < nx) <;> rfl
  | cons x l => simp only [accR, List.cons_append, List.nil_append, low]
theorem low_acc0 : low nx (accR id q es) = bif decide (id < nx) then accR id q es else [] := by
  have := low_acc (id := id) (q := q) (es := es) (nx := nx) (R := [])
  simpa [low] using this
theorem minus_acc {is : List Nat} : minus Z is (accR id q es ++ R) = bif Z id || is.contains id then minus Z is R else accR id q es ++ minus Z is R := by
  cases es with
  | nil => cases Z id || is.contains id <;> rfl
  | cons x l => simp only [accR, List.cons_append, List.nil_append, minus]
theorem minus_acc0 {is : List Nat} : minus Z is (accR id q es) = bif Z id || is.contains id then [] else accR id q es := by
  have := minus_acc (id := id) (q := q) (es := es) (Z := Z) (is := is) (R := [])
  simpa [minus] using this
theorem rnR_acc (h : ∀ x ∈ es, ∀ v ∈ x, Cl v) : rnR rho (accR id q es) = accR (rho id) q es := by
  cases es with
  | nil => rfl
  | cons x l => simp only [accR, rnR, rnLL_cl h]
theorem rn_acc : (accV id q es).rn rho = accV (rho id) q es := by cases es <;> rfl

theorem appC_acc (h : accOK rows id sz es) : appC rows sz bytes z (accV id sz es) y = (elsC rows sz y ∧ (∀ c ∈ elsV rows y, ∀ v ∈ c, v.one) ∧ z.length = sz ∧ (es.length + (elsV rows y).length) * bytes ≤ 140737488355328 ∧ es.length + (elsV rows y).length ≤ 9223372036854775807) := by
  cases es with
  | nil => simp [accV, appC, lenV]
  | cons x l =>
    have h : look rows id = some ⟨sz, x :: l⟩ := h
    simp only [accV, appC_sl, h]
    simp
theorem appV_acc : appV rows sz k (accV id sz es) y = accV k sz (es ++ elsV rows y) := by
  cases es with
  | nil =>
    simp only [accV, appV_nils, List.nil_append]
    cases elsV rows y <;> simp [accV]
  | cons x l => simp only [accV, appV_sln, List.cons_append, List.length_append]; congr 1; omega
theorem appR_acc (h : accOK rows id sz es) : appR rows sz k (accV id sz es) y = accR k sz (es ++ elsV rows y) ++ dropA id es rows := by
  cases es with
  | nil =>
    simp only [accV, appR_nils, List.nil_append, dropA]
    cases elsV rows y <;> simp [accR]
  | cons x l =>
    have h : look rows id = some ⟨sz, x :: l⟩ := h
    simp only [accV, appR_sl, h, dropA]
    simp [accR, appT]
theorem lenV_acc : lenV (accV id q es) = (es.length : Int) := by cases es <;> simp [accV, lenV]
theorem lenC_acc : lenC (accV id q es) = True := by cases es <;> rfl
theorem strip_acc : (accV id q es).strip = accV id q es := by cases es <;> rfl
theorem live_acc : (accV id q es).live = True := by cases es <;> rfl
theorem known_acc : (accV id q es).known = True := by cases es <;> rfl
theorem one_acc : (accV id q es).one = True := by cases es <;> rfl
theorem cells_acc : (accV id q es).cells = [accV id q es] := by cases es <;> rfl
theorem nilC_acc : nilC (accV id q es) = True := by cases es <;> simp [accV, nilC]
theorem nilV_acc : nilV (accV id q es) = es.isEmpty := by cases es <;> rfl
theorem slcSz_acc : slcSz q (accV id q es) = True := by cases es <;> simp [accV, slcSz]
theorem elsC_acc (h : accOK rows id q es) : elsC rows q (accV id q es) = True := by
  cases es with
  | nil => rfl
  | cons x l =>
    have h : look rows id = some ⟨q, x :: l⟩ := h
    simp [accV, elsC, h]
theorem elsV_acc (h : accOK rows id q es) : elsV rows (accV id q es) = es := by
  cases es with
  | nil => rfl
  | cons x l =>
    have h : look rows id = some ⟨q, x :: l⟩ := h
    simp [accV, elsV, h]
theorem iasC_acc : iasC q (accV id q es) (.int kk m) = (0 ≤ m ∧ m < es.length) := by
  cases es with
  | nil => refine propext ⟨fun h => h.elim, fun ⟨h1, h2⟩ => ?_⟩; simp at h2; omega
  | cons x l => simp [accV, iasC]
theorem iasV_acc (h : decide (m < (es.length : Int)) = true) (h0 : decide (0 ≤ m) = true) : iasV (accV id q es) (.int kk m) = .pt id q m.toNat 0 := by
  cases es with
  | nil => have := of_decide_eq_true h; have := of_decide_eq_true h0; simp at *; omega
  | cons x l => simp [accV, iasV]
theorem accV_ne (h : es ≠ []) : accV id q es = .sl id q 0 es.length none := by
  cases es with
  | nil => exact (h rfl).elim
  | cons x l => simp [accV]
theorem accR_ne (h : es ≠ []) : accR id q es = [(id, ⟨q, es⟩)] := by
  cases es with
  | nil => exact (h rfl).elim
  | cons x l => rfl
theorem cv_acc (h : id = rho j) : Cv rows Z rho (accV id q es) (accV j q es) := by
  cases es with
  | nil => exact .nils
  | cons x l => exact .sl _ _ _ _ _ _ _ h (.inl rfl)
theorem bel_acc (h : id < n) : Bel n (accV id q es) := by
  cases es with
  | nil => exact .nils
  | cons x l => exact .sl _ _ _ _ _ h
theorem cv_accF (hz : Z id = true) (ho : accOK rows id q es) (hl : ∀ x ∈ es, x.length = q) (hc : ∀ x ∈ es, ∀ v ∈ x, Cl v) : Cv rows Z rho (accV id q es) (.ros q es) := by
  cases es with
  | nil => exact .nilsR q
  | cons x l =>
    have ho : look rows id = some ⟨q, x :: l⟩ := ho
    exact cv_slG ho hz ⟨rfl, rfl⟩ hl rfl (by simp) hc
theorem rowsAll_acc {n : Nat} (h1 : j < n) (h2 : Z (rho j) = false) (h3 : accOK rows (rho j) q es) (h4 : ∀ x ∈ es, ∀ v ∈ x, Cl v) (h5 : rowsAll rows Z rho n R) : rowsAll rows Z rho n (accR j q es ++ R) := by
  cases es with
  | nil => exact h5
  | cons x l =>
    have h3 : look rows (rho j) = some ⟨q, x :: l⟩ := h3
    exact ⟨⟨h1, h2, by rw [h3]; exact ⟨rfl, cellsCv_eq rfl h4⟩⟩, h5⟩
theorem rowsAll_acc0 {n : Nat} (h1 : j < n) (h2 : Z (rho j) = false) (h3 : accOK rows (rho j) q es) (h4 : ∀ x ∈ es, ∀ v ∈ x, Cl v) : rowsAll rows Z rho n (accR j q es) := by
  have := rowsAll_acc (R := []) h1 h2 h3 h4 trivial
  simpa using this
/-- A slice that grows from an empty literal: never nil. -/
def eV (id q : Nat) (es : List (List AV)) : AV := .sl id q 0 es.length (if es.length ≤ 0 then some 0 else none)
theorem appC_e : appC rows sz bytes z (.sl id q 0 0 (some 0)) y = appC rows sz bytes z (eV id q []) y := rfl
theorem appV_e : appV rows sz k (.sl id q 0 0 (some 0)) y = eV k q (elsV rows y) := by
  simp [appV, eV]
theorem appR_e : appR rows sz k (.sl id q 0 0 (some 0)) y = appR rows sz k (eV id q []) y := rfl
theorem appV_eV : appV rows sz k (eV id q es) y = eV k q (es ++ elsV rows y) := by
  unfold eV
  cases es with
  | nil => simp [appV]
  | cons x l => simp [appV]; omega
theorem appC_eV (h : look rows id = some ⟨sz, es⟩) : appC rows sz bytes z (eV id sz es) y = (elsC rows sz y ∧ (∀ c ∈ elsV rows y, ∀ v ∈ c, v.one) ∧ z.length = sz ∧ (es.length + (elsV rows y).length) * bytes ≤ 140737488355328 ∧ es.length + (elsV rows y).length ≤ 9223372036854775807) := by
  unfold eV
  simp only [appC_sl, h]
  simp
theorem appR_eV (h : look rows id = some ⟨sz, es⟩) : appR rows sz k (eV id sz es) y = (k, ⟨sz, es ++ elsV rows y⟩) :: drop rows id := by
  unfold eV
  simp only [appR_sl, h]
  rw [appT_nil (by omega)]
  simp
theorem lenV_eV : lenV (eV id q es) = (es.length : Int) := rfl
theorem lenC_eV : lenC (eV id q es) = True := rfl
theorem strip_eV : (eV id q es).strip = eV id q es := rfl
theorem live_eV : (eV id q es).live = True := rfl
theorem known_eV : (eV id q es).known = True := rfl
theorem one_eV : (eV id q es).one = True := rfl
theorem cells_eV : (eV id q es).cells = [eV id q es] := rfl
theorem slcSz_eV : slcSz q (eV id q es) = True := by simp [eV, slcSz]
theorem iasC_eV : iasC q (eV id q es) (.int kk m) = (0 ≤ m ∧ m < es.length) := by simp [eV, iasC]
theorem iasV_eV : iasV (eV id q es) (.int kk m) = .pt id q m.toNat 0 := by simp [eV, iasV]
theorem elsC_eV (h : look rows id = some ⟨q, es⟩) : elsC rows q (eV id q es) = True := by simp [eV, elsC, h]
theorem elsV_eV (h : look rows id = some ⟨q, es⟩) : elsV rows (eV id q es) = es := by simp [eV, elsV, h]
theorem rn_eV : (eV id q es).rn rho = eV (rho id) q es := rfl
theorem sh_eV : (eV id q es).sh k = eV (id + k) q es := rfl
theorem cv_eV (h : id = rho j) : Cv rows Z rho (eV id q es) (eV j q es) := .sl _ _ _ _ _ _ _ h (.inl rfl)
theorem cv_eVsl (h : id = rho j) (hn : n = es.length) : Cv rows Z rho (eV id q es) (.sl j q 0 n none) := by subst hn; exact .sl _ _ _ _ _ _ _ h (.inr rfl)
theorem bel_eV (h : id < n) : Bel n (eV id q es) := .sl _ _ _ _ _ h
theorem cv_eVF (hz : Z id = true) (ho : look rows id = some ⟨q, es⟩) (hl : ∀ x ∈ es, x.length = q) (hc : ∀ x ∈ es, ∀ v ∈ x, Cl v) : Cv rows Z rho (eV id q es) (.ros q es) :=
  cv_slG ho hz ⟨rfl, rfl⟩ hl rfl rfl hc
theorem mem_accR {p : Nat × Row} (h : p ∈ accR id q es) : p.1 = id := by
  cases es with
  | nil => cases h
  | cons x l => rw [accR, List.mem_singleton] at h; rw [h]
theorem keys_acc {i : Nat} (h : i ∈ keys (accR id q es)) : i = id := by
  cases es with
  | nil => cases h
  | cons x l => simpa [accR, keys] using h
theorem all_acc {P : Nat × Row → Bool} (h : ∀ r, P (id, r) = true) : (accR id q es).all P = true := by
  cases es with
  | nil => rfl
  | cons x l => simp [accR, h]
end

theorem CArgs.to {F : Nat → Prop} {w : World} {xs ys : List AV} {args : Array Value} (ho : Old F w) (hx : All2 (Cv [] (fun _ => false) (fun i => i)) xs ys) (h : CArgs F w xs args) : CArgs F w ys args := by
  have hs : SRel F w (fun _ => (0, 0)) (fun _ => False) [] := ⟨fun id r h => by simp [look] at h, fun id id' r r' h => by simp [look] at h, ho⟩
  have hF : frozenIn F (fun _ => (0, 0)) [] (fun _ => false) = F := by
    funext b
    refine propext ⟨fun h => h.elim id fun ⟨id, r, h, _⟩ => by simp at h, .inl⟩
  refine ⟨h.1.trans (all2_len hx).symm, fun j y hy => ?_⟩
  have hj : j < xs.length := by rw [← all2_len hx]; exact (List.getElem?_eq_some_iff.1 hy).1
  have := VR.cv (D' := fun _ => False) hs (fun _ h => h) (all2_get hx j _ y (List.getElem?_eq_getElem hj) hy) (h.2 j _ (List.getElem?_eq_getElem hj))
  rw [hF] at this
  exact this
theorem PCall.to {P : Program} {f : FuncId} {xs ys : List AV} {v : AV} (h : PCall P f ys v) (hx : All2 (Cv [] (fun _ => false) (fun i => i)) xs ys) : PCall P f xs v :=
  ⟨h.enter, fun F w args ho ha => h.run F w args ho (ha.to ho hx)⟩
theorem RCall.to {P : Program} {f : FuncId} {xs ys : List AV} {k m : Nat} {new : Rows} {v : AV} (h : RCall P f ys k m new v) (hx : All2 (Cv [] (fun _ => false) (fun i => i)) xs ys) : RCall P f xs k m new v :=
  ⟨h.enter, h.rng, fun F w args ho ha => h.run F w args ho (ha.to ho hx)⟩
theorem all2_takeC {rows : Rows} {Z : Nat → Bool} {rho : Nat → Nat} {l : List AV} {n : Nat} (hn : l.length ≤ n) (hc : ∀ v ∈ l, Cl v) : All2 (Cv rows Z rho) (l.take n) l := by
  rw [List.take_of_length_le hn]; exact all2_cl hc
theorem cv_slY {rows : Rows} {Z : Nat → Bool} {rho : Nat → Nat} {id n : Nat} {k : Option Nat} {r : Row} {cs : List AV} {fs : List (List AV)} (hz : Z id = true) (hr : look rows id = some r) (hf : r.es = [cs]) (hn : cs.length = n) (hfs : fs = cs.map fun c => [c]) (hc : ∀ c ∈ cs, Cl c) :
    Cv rows Z rho (.sl id 1 0 n k) (.ros 1 fs) := by
  subst hfs
  have hfl : r.es.flatten = cs := by rw [hf]; simp
  refine .sla id 0 n k r cs hz hr (by rw [hfl]; omega) hn fun q c d h1 h2 => ?_
  rw [hfl, Nat.zero_add] at h1
  rw [h1] at h2; cases h2
  exact cv_closed (hc c (List.mem_of_getElem? h1))
def zB (z i : Nat) : Bool := i == z
theorem zB_self {z : Nat} : zB z z = true := by simp [zB]
/-- A part of an array variable that nobody writes any more. -/
theorem cv_slZ {rows : Rows} {rho : Nat → Nat} {id n : Nat} {k : Option Nat} {r : Row} {cs : List AV} {fs : List (List AV)} (hr : look rows id = some r) (hf : r.es = [cs]) (hn : cs.length = n) (hfs : fs = cs.map fun c => [c]) (hc : ∀ c ∈ cs, Cl c) :
    Cv rows (zB id) rho (.sl id 1 0 n k) (.ros 1 fs) := by
  subst hfs
  have hfl : r.es.flatten = cs := by rw [hf]; simp
  refine .sla id 0 n k r cs zB_self hr (by rw [hfl]; omega) hn fun q c d h1 h2 => ?_
  rw [hfl, Nat.zero_add] at h1
  rw [h1] at h2; cases h2
  exact cv_closed (hc c (List.mem_of_getElem? h1))
theorem SCall.fZ {P : Program} {f : FuncId} {xs ys : List AV} {v : AV} {s : Store} {K Kp : AV → Store → Prop} {z : Nat}
    (h : PCall P f ys v) (hx : argsCv s.rows (zB z) (fun _ => 0) 0 xs ys) (hcl : ∀ y ∈ ys, Cl y) (hv : Cl v) (hK : K v ⟨s.nx, minus (zB z) [] s.rows⟩) :
    ∃ o s', SCall P f xs s o s' ∧ outK K Kp o s' := by
  have h1 : SCall P f ys ⟨0, []⟩ (.ret v) ⟨0, []⟩ := h.s hcl
  have h2 := SCall.fr (s := s) (zB z) (fun _ => 0) h1 (argsCv_get hx).1 (argsCv_get hx).2 trivial (fun q hq => by cases hq) (fun i hi => by omega) (fun q hq => by cases hq)
  refine ⟨_, _, h2, ?_⟩
  simp only [rnO, rn_cl hv, rnR, ids, List.nil_append]
  exact hK
section
variable {P : Program} {f : FuncId} {xs ys : List AV} {v u : AV} {s s' : Store} {o : AO} {m : Nat} {new rows : Rows} {K Kp : AV → Store → Prop} {K1 : AV → Prop} {b : Bool}
theorem sc_p (h : PCall P f xs v) (hc : ∀ x ∈ xs, Cl x) (hK : outK K Kp (.ret v) s) : ∃ o s', SCall P f xs s o s' ∧ outK K Kp o s' := ⟨_, _, h.s hc, hK⟩
theorem sc_r (h : RCall P f xs 0 m new v) (hc : ∀ x ∈ xs, Cl x) (hK : outK K Kp (.ret (v.sh s.nx)) ⟨s.nx + m, shR s.nx new ++ s.rows⟩) : ∃ o s', SCall P f xs s o s' ∧ outK K Kp o s' := ⟨_, _, h.sh.s hc, hK⟩
theorem sc_s (h : SCall P f xs s o s') (hK : outK K Kp o s') : ∃ o s', SCall P f xs s o s' ∧ outK K Kp o s' := ⟨_, _, h, hK⟩
theorem sc_l (h : SCall P f xs ⟨0, []⟩ (outR b v u) ⟨0, []⟩) (h1 : Cl v) (h2 : Cl u) (hc : ∀ x ∈ xs, Cl x) (hK : outK K Kp (outR b v u) s) : ∃ o s', SCall P f xs s o s' ∧ outK K Kp o s' := ⟨_, _, h.lift (outR_cl h1 h2) hc, hK⟩
theorem sc_pz (h : PCall P f ys v) (hx : All2 (frzArg s.rows) xs ys) (hv : Fl v) (hK : outK K Kp (.ret v) s) : ∃ o s', SCall P f xs s o s' ∧ outK K Kp o s' := ⟨_, _, h.frz hx hv, hK⟩
theorem sc_rz (h : RCall P f ys 0 m new v) (hx : All2 (frzArg s.rows) xs ys) (hv : Fl (v.sh s.nx)) (hn : flRows (shR s.nx new)) (hK : outK K Kp (.ret (v.sh s.nx)) ⟨s.nx + m, shR s.nx new ++ s.rows⟩) : ∃ o s', SCall P f xs s o s' ∧ outK K Kp o s' := ⟨_, _, h.sh.frz hx hv hn, hK⟩
theorem cd_p {g : FuncId} {k : Nat} {K : Nat → Rows → AV → Prop} (h : PCall P g xs v) (hc : ∀ x ∈ xs, Cl x) (hK : K 0 [] v) : callD P rows g xs k K := callD_cl h.r hc hK
theorem cd_r {g : FuncId} {k : Nat} {K : Nat → Rows → AV → Prop} (h : RCall P g xs 0 m new v) (hc : ∀ x ∈ xs, Cl x) (hK : K m (shR k new) (v.sh k)) : callD P rows g xs k K := callD_cl h.sh hc hK
theorem cd_pz {g : FuncId} {k : Nat} {K : Nat → Rows → AV → Prop} (h : PCall P g ys v) (hx : All2 (frzArg rows) xs ys) (hv : Fl v) (hK : K 0 [] v) : callD P rows g xs k K := callD_fz h.r hx hv trivial hK
theorem cd_rz {g : FuncId} {k : Nat} {K : Nat → Rows → AV → Prop} (h : RCall P g ys 0 m new v) (hx : All2 (frzArg rows) xs ys) (hv : Fl (v.sh k)) (hn : flRows (shR k new)) (hK : K m (shR k new) (v.sh k)) : callD P rows g xs k K := callD_fz h.sh hx hv hn hK
theorem ap_cl (h : PCall P f xs v) (hc : ∀ x ∈ xs, Cl x) (hK : K1 v) : ∃ v, argsP P rows f xs v ∧ K1 v := ⟨_, argsP_cl h hc, hK⟩
theorem ap_fz (h : PCall P f ys v) (hx : All2 (frzArg rows) xs ys) (hv : Fl v) (hK : K1 v) : ∃ v, argsP P rows f xs v ∧ K1 v := ⟨_, argsP_fz h hx hv, hK⟩
end
theorem isByte_u8 {n : Int} : isByte (.int .u8 n) = True := rfl
theorem ex_byte {x : AV} : (∃ v, [x] = [v] ∧ isByte v) = isByte x := propext ⟨fun ⟨v, h, hb⟩ => by cases h; exact hb, fun h => ⟨x, rfl, h⟩⟩
def keysIn (rows : Rows) (ks : List Nat) : Prop := ∀ q ∈ rows, q.1 ∈ ks
theorem keysIn_nil : keysIn [] [] := fun q h => by cases h
theorem keysIn_cons {l : Rows} {k : Nat} {r : Row} {ks : List Nat} (h : keysIn l ks) : keysIn ((k, r) :: l) (k :: ks) := fun q hq => by
  rcases List.mem_cons.1 hq with rfl | hq
  · simp
  · exact List.mem_cons_of_mem _ (h q hq)
theorem keysIn_acc {l : Rows} {k sz : Nat} {es : List (List AV)} {ks : List Nat} (h : keysIn l ks) : keysIn (accR k sz es ++ l) (k :: ks) := fun q hq => by
  rcases List.mem_append.1 hq with hq | hq
  · rw [mem_accR hq]; simp
  · exact List.mem_cons_of_mem _ (h q hq)
theorem keysIn_acc0 {k sz : Nat} {es : List (List AV)} : keysIn (accR k sz es) [k] := fun q hq => by rw [mem_accR hq]; simp
theorem inj_of {rows : Rows} {rho : Nat → Nat} {ks : List Nat} (h : keysIn rows ks) (hi : injK rho ks) : ∀ q ∈ rows, ∀ q' ∈ rows, rho q.1 = rho q'.1 → q.1 = q'.1 :=
  fun q hq q' hq' e => hi _ (h q hq) _ (h q' hq') e
theorem injK_of {rows : Rows} {rho : Nat → Nat} {ks : List Nat} (h : keysIn rows ks) (hi : injK rho ks) : injK rho (keys rows) := fun i hi' j hj e => by
  have key : ∀ {l : Rows} {i : Nat}, i ∈ keys l → ∃ q ∈ l, q.1 = i := by
    intro l
    induction l with
    | nil => intro i h; cases h
    | cons x l ih =>
      intro i h
      obtain ⟨k, r⟩ := x
      rcases List.mem_cons.1 h with rfl | h
      · exact ⟨_, List.mem_cons_self, rfl⟩
      · obtain ⟨q, hq, e⟩ := ih h; exact ⟨q, List.mem_cons_of_mem _ hq, e⟩
  obtain ⟨q, hq, rfl⟩ := key hi'
  obtain ⟨q', hq', rfl⟩ := key hj
  exact hi _ (h q hq) _ (h q' hq') e
def rhoB (n0 a b c : Nat) (i : Nat) : Nat := bif decide (i < n0) then i else rhoA a b c (i - n0)
theorem rhoB_lt {n0 a b c i : Nat} (h : decide (i < n0) = true) : rhoB n0 a b c i = i := by simp only [rhoB, h, cond_true]
theorem rhoB_ge {n0 a b c i : Nat} (h : decide (i < n0) = false) : rhoB n0 a b c i = rhoA a b c (i - n0) := by simp only [rhoB, h, cond_false]
theorem Wk.renB {n0 a b c : Nat} {e e' : Env} {s s' : Store} (Z : Nat → Bool) (hn : decide (n0 ≤ s'.nx) = true) (he : envAll s.rows Z (rhoB n0 a b c) s'.nx e e') (hr : rowsAll s.rows Z (rhoB n0 a b c) s'.nx s'.rows)
    (hinj : ∀ q ∈ s'.rows, ∀ q' ∈ s'.rows, rhoB n0 a b c q.1 = rhoB n0 a b c q'.1 → q.1 = q'.1) : Wk n0 e s e' s' :=
  Wk.ren Z _ (of_decide_eq_true hn) (fun i hi => rhoB_lt (decide_eq_true hi)) he hr hinj
theorem accOK_of {rows : Rows} {id q : Nat} {es : List (List AV)} (h : look rows id = some ⟨q, es⟩) : accOK rows id q es := by
  cases es with
  | nil => trivial
  | cons x l => exact h
theorem cv_sl_acc {rows : Rows} {Z : Nat → Bool} {rho : Nat → Nat} {id j q n : Nat} {c : Option Nat} {es : List (List AV)} (h : id = rho j) (hn : n = es.length) (hne : 0 < es.length) : Cv rows Z rho (.sl id q 0 n c) (accV j q es) := by
  subst hn
  rw [accV_ne (by rintro rfl; cases hne)]
  exact .sl _ _ _ _ _ _ _ h (.inr rfl)
theorem cv_acc_sl {rows : Rows} {Z : Nat → Bool} {rho : Nat → Nat} {id j q n : Nat} {es : List (List AV)} (h : id = rho j) (hn : n = es.length) (hne : 0 < es.length) : Cv rows Z rho (accV id q es) (.sl j q 0 n none) := by
  subst hn
  rw [accV_ne (by rintro rfl; cases hne)]
  exact .sl _ _ _ _ _ _ _ h (.inl rfl)
theorem forall_drop {α : Type} {L : List α} {P : α → Prop} {n : Nat} (h : ∀ x, x ∈ L → P x) : (∀ x, x ∈ L.drop n → P x) = True := eq_true fun x hx => h x (List.mem_of_mem_drop hx)
theorem forall_take {α : Type} {L : List α} {P : α → Prop} {n : Nat} (h : ∀ x, x ∈ L → P x) : (∀ x, x ∈ L.take n → P x) = True := eq_true fun x hx => h x (List.mem_of_mem_take hx)
/-- A row that is told of only in part. -/
theorem Wk.trunc {n0 nx : Nat} {e : Env} {rows : Rows} (id n : Nat) {r : Row} (hl : look rows id = some r) : Wk n0 e ⟨nx, rows⟩ e ⟨nx, over rows id ⟨r.sz, r.es.take n⟩⟩ := by
  intro N F w p a hn hrel
  obtain ⟨he, hs⟩ := hrel
  have hlk : ∀ i r', look (over rows id ⟨r.sz, r.es.take n⟩) i = some r' → ∃ r0, look rows i = some r0 ∧ r'.sz = r0.sz ∧ (∃ m, r'.es = r0.es.take m) := by
    intro i r' h
    rw [look_over] at h
    split at h
    · rename_i hi; subst hi
      rw [hl] at h; simp at h; subst h
      exact ⟨r, hl, rfl, n, rfl⟩
    · exact ⟨r', h, rfl, r'.es.length, by simp⟩
  refine ⟨F, p, ⟨he, ⟨fun i r' h => ?_, fun i i' r1 r2 h1 h2 hne => ?_, hs.old⟩⟩, ?_⟩
  · obtain ⟨r0, h1, h2, m, h3⟩ := hlk i r' h
    obtain ⟨g1, g2, ⟨⟨c, t, fz, hb, hf, hrr, hv⟩, hz⟩⟩ := hs.row i r0 h1
    have hle : r'.es.length * r'.sz ≤ r0.es.length * r0.sz := by rw [h2, h3]; exact Nat.mul_le_mul_right _ (by simp; omega)
    refine ⟨g1, g2, ⟨⟨c, t, fz, hb, hf, by omega, fun i x j v hx hj => ?_⟩, fun x hx => ?_⟩⟩
    · rw [h2]; rw [h3, List.getElem?_take] at hx
      split at hx
      · exact hv i x j v hx hj
      · cases hx
    · rw [h2]; rw [h3] at hx; exact hz x (List.mem_of_mem_take hx)
  · obtain ⟨r0, k1, _⟩ := hlk _ _ h1
    obtain ⟨r0', k2, _⟩ := hlk _ _ h2
    exact hs.apart _ _ _ _ k1 k2 hne
  · refine ⟨rfl, rfl, rfl, Nat.le_refl _, fun _ _ _ => rfl, fun b c t fz hb => ⟨c, t, fz, hb, rfl⟩, fun _ h => h, fun b h => .inl h, ?_, fun _ _ => rfl, hn⟩
    rintro b ⟨i, r', h, rfl⟩
    obtain ⟨r0, k1, _⟩ := hlk _ _ h
    exact .inr ⟨i, r0, k1, rfl⟩
end Go.Proofs.YtggmkfagcjdifaaDoor.Ai
namespace Go.Proofs.YtggmkfagcjdifaaDoor.Ai
set_option linter.unusedSimpArgs false
set_option linter.unusedVariables false
set_option linter.unnecessarySimpa false
set_option linter.unusedSectionVars false
attribute [push_cast] outK_ret outK_pan vis frs low oneR flId tgt w_skip w_ret w_exit w_seq x_cond w_block x_reg x_drw seqX_nil seqX_none seqX_some gX_1 gX_2 gX_3 gX_4 kS kP kG dX_nil dX_st dX_none dX_some hX_1 hX_2 calC kD_0 kD_1 kH iss_mv iss_pick iss_nc iss_alloc iss_box iss_build iss_bslice iss_ld iss_fa iss_fd iss_ias iss_iaa iss_ixa iss_ixs iss_ext iss_bin iss_eqb iss_eqn iss_not iss_neg iss_cv iss_b2s iss_s2b iss_mkf iss_mki iss_len iss_lens iss_cap iss_max2 iss_min2 iss_slc iss_sls iss_mks iss_app iss_eqv iss_cal iss_cav iss_pan iss_tas iss_eqi brX_true brX_false opR opG opD thn_n thn_r thn_e thn_p blk_n blk_r blk_e blk_p argE Ai.put Ai.next Ai.push prow pcond pval sv lv ev Ai.get beq_iff_eq cond_true cond_false AV.strip AV.live binC binV intC intV gv gvA norow pickC pickV sel ncC partsC partsV splice elemsC elemsV rdc rdv Ai.look Ai.over Ai.drop faC faV fdC fdV partV iaaC iaaV ixaC ixaV extC extV boolC intIs strIs eqbV notV negV cvV maxV minV eqvC eqvV skC skE stC stR AV.known allLv intOr List.length_cons List.length_nil List.take_succ_cons List.take_zero List.drop_succ_cons List.drop_zero List.append_nil List.nil_append List.contains_nil List.contains_cons List.cons_append List.getD_cons_zero List.getD_cons_succ List.headD_cons List.set_cons_zero List.set_cons_succ List.replicate_succ List.replicate_zero List.map_cons List.map_nil Int.toNat_natCast true_and and_true Nat.zero_add Nat.add_zero Nat.zero_mul Nat.mul_one Nat.one_mul Bool.not_true Bool.not_false Bool.and_true Bool.and_false Bool.true_and Bool.false_and Nat.lt_add_one Nat.le_refl List.take_nil List.drop_nil true_implies false_implies List.mem_cons List.not_mem_nil or_false forall_eq_or_imp forall_eq ibne or_true true_or false_or and_false false_and ne_eq not_true_eq_false not_false_eq_true beq_true beq_false Bool.true_beq Bool.false_beq ibeq decide_true decide_false rvsC rvC rvV tupV cl_any cl_bool cl_int cl_str cl_nilp cl_nils cl_nilf cl_nili cl_nilm cl_roe cl_agg cl_tup cl_ros cl_rop cl_opt bel_any bel_bool bel_int bel_str bel_nilp bel_nils bel_nilf bel_nili bel_nilm bel_roe bel_agg bel_tup bel_ros bel_rop bel_opt bel_sl bel_pt beq_self_eq_true cvAll cv_refl cv_agg cv_tup cv_rop all2_cons all2_nil cv_bool cv_int cv_str cv_nilsR cv_ifc cv_opt List.length_map List.forall_mem_map one_int one_bool one_str one_nils one_ros one_sl cl_ros List.length_append List.mem_append or_imp forall_and take_map_len isIfc cl_ifc cl_fn bel_ifc bel_fn dfrQ dfrG_eq shR AV.sh fl_any fl_bool fl_int fl_str fl_nilp fl_nils fl_nilf fl_nili fl_nilm fl_roe fl_sl fl_pt fl_agg fl_tup fl_ifc flRows Bool.cond_true Bool.cond_false bits2_and bits2_or bits2_xor bits2_not strC strV byteOf bound boundL sliceC ixsC ixsV nilsIs s2bV s2bR lensV capC capV slsC slsV mksC sliceV tasC tasV ifcIs niliV shL shLL_cl shR_append accV_sh accR_sh le0 one_roe envAll rowsAll rowCv rhoA_0 rhoA_1 rhoA_2 cv_any cv_bool cv_int cv_str cv_nilp cv_nils cv_nilf cv_nili cv_nilm cv_agg cv_tup cv_rop cv_sl cv_pt cv_fn cv_ifc cv_opt bel_any bel_bool forall_const implies_true eq_self imp_self iss_sla iss_cpy iss_bnot slaC slaV bnotV cpyC cpyN cpyR List.flatten_cons List.flatten_nil rep_len forall_rep AV.rn rnL rnLL rnR rnO rhoX minus ids rnLL_cl rnL_cl rnR_append argsCv appC_nils appC_sln appC_sls appC_acc appV_nils appV_sln appV_sls appV_acc appR_nils appR_sln appR_sls appR_acc accOK_hd accOK_hd0 accOK_tl accOK_acc accOK_nil dropA_nil dropA_cons dropA_hd dropA_hd0 dropA_acc dropA_acc0 drop_acc drop_acc0 look_acc look_hd look_hd0 over_acc low_acc low_acc0 minus_acc minus_acc0 rnR_acc rn_acc lenV_acc lenC_acc strip_acc live_acc known_acc one_acc cells_acc nilC_acc nilV_acc slcSz_acc elsC_acc elsV_acc iasC_acc iasV_acc forall_drop forall_take rhoB_lt rhoB_ge zB lenV_ros lenV_sl lenV_nils lenV_roe lenC_ros lenC_sl lenC_nils lenC_roe iasC_ros iasC_sl iasC_nils iasV_ros iasV_sl elsC_ros elsC_nils elsC_roe elsC_sl elsV_ros elsV_nils elsV_roe elsV_sl slcSz_ros slcSz_sl slcSz_nils slcSz_roe nilC_nils nilC_roe nilC_ros nilC_sl nilV_nils nilV_roe nilV_ros nilV_sl cells_agg cells_bool cells_int cells_str cells_nilp cells_nils cells_nilf cells_nili cells_nilm cells_ros cells_rop cells_sl cells_pt cells_fn cells_ifc cells_roe cells_tup cells_any Int.natCast_nonneg appT_none appT_nil accOK_lit Nat.le_add_right appC_e appV_e appR_e appV_eV appC_eV appR_eV lenV_eV lenC_eV strip_eV live_eV known_eV one_eV cells_eV slcSz_eV iasC_eV iasV_eV elsC_eV elsV_eV rn_eV sh_eV Bool.true_or Bool.false_or Bool.or_true Bool.or_false isByte_u8 ex_byte
end Go.Proofs.YtggmkfagcjdifaaDoor.Ai
