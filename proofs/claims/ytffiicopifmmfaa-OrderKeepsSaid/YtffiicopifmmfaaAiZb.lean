/-
  The runs once more, every continuation a named function (so that none is entered before its turn). Plain facts, no condition.
-/
import Derived.Test.YtffiicopifmmfaaAiY
import Derived.Test.YtffiicopifmmfaaAiW
namespace Go.Proofs.Ytffiicopifmmfaa.Ai
set_option linter.unusedSimpArgs false
set_option linter.unusedVariables false
set_option linter.unnecessarySimpa false
set_option linter.unusedSectionVars false
set_option linter.unusedVariables false

def seqX (P : Program) (l : List RP) (Q : AX → Env → Store → Prop) (e : Env) (s : Store) : Prop := seqR P l (fun e s => Q .normal e s) (fun v e s => Q (.pan v) e s) e s
def kS (P : Program) (l : List RP) (Q : AX → Env → Store → Prop) (e : Env) (d : Option Nat) (v : AV) (s : Store) : Prop := seqX P l Q (put e d v) s
def kP (Q : AX → Env → Store → Prop) (e : Env) (v : AV) (s : Store) : Prop := Q (.pan v) e s
def kG (P : Program) (l : List RP) (Q : AX → Env → Store → Prop) (e : Env) (s : Store) (d : Option Nat) (t : Bool) (v : AV) : Prop := seqX P l Q (put e d (.opt t v)) (next s none)
def gX (P : Program) (l : List RP) (Q : AX → Env → Store → Prop) (e : Env) (s : Store) (d : Option Nat) (im : Bool) (op : ROp) : Bool → Option Bool → Prop
  | true, some t => opG P t op e s (kG P l Q e s d t)
  | false, some true => opR P im op e s (kS P l Q e d) (kP Q e)
  | false, some false => seqX P l Q (put e d (.opt false .any)) s
  | _, none => False

section
variable {P : Program} {n0 : Nat} {Q : AX → Env → Store → Prop} {e : Env} {s : Store} {l : List RP} {dst : Option Nat} {im : Bool} {op : ROp}
theorem seqX_nil : seqX P [] Q e s = Q .normal e s := rfl
theorem seqX_none : seqX P (⟨dst, none, im, op⟩ :: l) Q e s = opR P im op e s (kS P l Q e dst) (kP Q e) := rfl
theorem seqX_some {g : Nat} {b : Bool} : seqX P (⟨dst, some (g, b), im, op⟩ :: l) Q e s = gX P l Q e s dst im op (norow im op) (gv e g b) := by
  simp only [seqX, seqR]
  cases gv e g b with
  | none => cases norow im op <;> rfl
  | some t =>
    cases norow im op with
    | true => rfl
    | false =>
      cases t with
      | true => exact propext ⟨fun h => h.1 rfl, fun h => ⟨fun _ => h, nofun⟩⟩
      | false => exact propext ⟨fun h => h.2 rfl, fun h => ⟨nofun, fun _ => h⟩⟩

def dX (P : Program) (rows0 : Rows) (nx0 : Nat) (l : List (Bool × RP)) (k : Nat) (cur : Rows) (tg fr : List Nat) (tail : List RP) (Q : AX → Env → Store → Prop) (e : Env) : Prop :=
  dR P rows0 nx0 l k cur tg fr (fun e s => seqR P tail (fun e s => Q .normal e s) (fun v e s => Q (.pan v) e s) e s) e
def kD (P : Program) (rows0 : Rows) (nx0 : Nat) (l : List (Bool × RP)) (k : Nat) (cur : Rows) (tg fr : List Nat) (tail : List RP) (Q : AX → Env → Store → Prop) (e : Env) (fl : Bool) (op : ROp) (d : Option Nat) (m : Nat) (new : Rows) (v : AV) : Prop :=
  dX P rows0 nx0 l (k + m) (new ++ cur) tg (frs e fl op fr) tail Q (put e d v)
def kH (P : Program) (rows0 : Rows) (nx0 : Nat) (l : List (Bool × RP)) (k : Nat) (cur : Rows) (tg fr : List Nat) (tail : List RP) (Q : AX → Env → Store → Prop) (e : Env) (d : Option Nat) (t : Bool) (v : AV) : Prop :=
  dX P rows0 nx0 l (k + 1) cur tg fr tail Q (put e d (.opt t v))
def hX (P : Program) (rows0 : Rows) (nx0 : Nat) (l : List (Bool × RP)) (k : Nat) (cur : Rows) (tg fr : List Nat) (tail : List RP) (Q : AX → Env → Store → Prop) (e : Env) (fl : Bool) (op : ROp) (d : Option Nat) : Bool → Option Bool → Prop
  | true, some t => opG P t op e ⟨k, vis rows0 nx0 cur tg e fl op⟩ (kH P rows0 nx0 l k cur tg (frs e fl op fr) tail Q e d t)
  | _, _ => False

variable {rows0 cur : Rows} {nx0 k : Nat} {ld : List (Bool × RP)} {tg fr : List Nat} {tail : List RP} {fl : Bool}
theorem dX_nil : dX P rows0 nx0 [] k cur tg fr tail Q e = seqX P tail Q e ⟨k, cur⟩ := rfl
theorem dX_st {sz : Nat} {a x : Opd} : dX P rows0 nx0 ((fl, ⟨dst, none, im, .st sz a x⟩) :: ld) k cur tg fr tail Q e =
    (lv e a ∧ lv e x ∧ stC cur sz (sv e a) (sv e x) ∧ tgt (sv e a) < k ∧ fr.contains (tgt (sv e a)) = false ∧ dX P rows0 nx0 ld (k + 1) (stR cur (sv e a) (sv e x)) (tgt (sv e a) :: tg) fr tail Q (put e dst .any)) := rfl
theorem dX_none (h : isSt op = false) : dX P rows0 nx0 ((fl, ⟨dst, none, im, op⟩) :: ld) k cur tg fr tail Q e = opD P im op e (vis rows0 nx0 cur tg e fl op) k (kD P rows0 nx0 ld k cur tg fr tail Q e fl op dst) := by
  cases op <;> first | rfl | cases h
theorem dX_some {g : Nat} {b : Bool} : dX P rows0 nx0 ((fl, ⟨dst, some (g, b), im, op⟩) :: ld) k cur tg fr tail Q e = hX P rows0 nx0 ld k cur tg fr tail Q e fl op dst (norow im op) (gv e g b) := by
  simp only [dX, dR]
  cases gv e g b with
  | none => cases norow im op <;> rfl
  | some t => cases norow im op <;> rfl

def brX (P : Program) (n0 : Nat) (a b : RQ) (Q : AX → Env → Store → Prop) (e : Env) (s : Store) : AV → Prop
  | .bool true => rwp P n0 a Q e s
  | .bool false => rwp P n0 b Q e s
  | _ => False
theorem kD_0 {new : Rows} {v : AV} : kD P rows0 nx0 ld k cur tg fr tail Q e fl op dst 0 new v = dX P rows0 nx0 ld (k + 0) (new ++ cur) tg (frs e fl op fr) tail Q (put e dst v) := rfl
theorem kD_1 {new : Rows} {v : AV} : kD P rows0 nx0 ld k cur tg fr tail Q e fl op dst 1 new v = dX P rows0 nx0 ld (k + 1) (new ++ cur) tg (frs e fl op fr) tail Q (put e dst v) := rfl
theorem brX_true {a b : RQ} : brX P n0 a b Q e s (.bool true) = rwp P n0 a Q e s := rfl
theorem brX_false {a b : RQ} : brX P n0 a b Q e s (.bool false) = rwp P n0 b Q e s := rfl
theorem x_reg {ops : List RP} : rwp P n0 (.reg ops) Q e s = seqX P ops Q e s := rfl
theorem x_drw {ops : List (Bool × RP)} : rwp P n0 (.drw ops tail) Q e s = dX P s.rows s.nx ops s.nx s.rows [] [] tail Q e := rfl
theorem x_cond {c : Opd} {a b : RQ} : rwp P n0 (.cond c a b) Q e s = (lv e c ∧ brX P n0 a b Q e s (sv e c)) := by
  simp only [rwp, condR]
  refine propext (and_congr_right fun _ => ?_)
  cases sv e c with
  | bool t => cases t with
    | true => exact ⟨fun h => h.1 rfl, fun h => ⟨fun _ => h, nofun⟩⟩
    | false => exact ⟨fun h => h.2 rfl, fun h => ⟨nofun, fun _ => h⟩⟩
  | _ => exact Iff.rfl
theorem gX_1 {d : Option Nat} : gX P l Q e s d im op true (some true) = opG P true op e s (kG P l Q e s d true) := rfl
theorem gX_2 {d : Option Nat} : gX P l Q e s d im op true (some false) = opG P false op e s (kG P l Q e s d false) := rfl
theorem gX_3 {d : Option Nat} : gX P l Q e s d im op false (some true) = opR P im op e s (kS P l Q e d) (kP Q e) := rfl
theorem gX_4 {d : Option Nat} : gX P l Q e s d im op false (some false) = seqX P l Q (put e d (.opt false .any)) s := rfl
theorem gX_split {d : Option Nat} {nr t : Bool} (h1 : t = true → gX P l Q e s d im op nr (some true)) (h2 : t = false → gX P l Q e s d im op nr (some false)) : gX P l Q e s d im op nr (some t) := by
  cases t with
  | true => exact h1 rfl
  | false => exact h2 rfl
theorem hX_1 {d : Option Nat} : hX P rows0 nx0 ld k cur tg fr tail Q e fl op d true (some true) = opG P true op e ⟨k, vis rows0 nx0 cur tg e fl op⟩ (kH P rows0 nx0 ld k cur tg (frs e fl op fr) tail Q e d true) := rfl
theorem hX_2 {d : Option Nat} : hX P rows0 nx0 ld k cur tg fr tail Q e fl op d true (some false) = opG P false op e ⟨k, vis rows0 nx0 cur tg e fl op⟩ (kH P rows0 nx0 ld k cur tg (frs e fl op fr) tail Q e d false) := rfl
theorem hX_split {d : Option Nat} {t : Bool} (h1 : t = true → hX P rows0 nx0 ld k cur tg fr tail Q e fl op d true (some true)) (h2 : t = false → hX P rows0 nx0 ld k cur tg fr tail Q e fl op d true (some false)) : hX P rows0 nx0 ld k cur tg fr tail Q e fl op d true (some t) := by
  cases t with
  | true => exact h1 rfl
  | false => exact h2 rfl
theorem brX_split {a b : RQ} {t : Bool} (h1 : t = true → rwp P n0 a Q e s) (h2 : t = false → rwp P n0 b Q e s) : brX P n0 a b Q e s (.bool t) := by
  cases t with
  | true => exact h1 rfl
  | false => exact h2 rfl
theorem iss_mv {a0} : isSt (.mv a0) = false := id rfl
theorem iss_pick {a0 a1 a2} : isSt (.pick a0 a1 a2) = false := id rfl
theorem iss_nc {a0} : isSt (.nc a0) = false := id rfl
theorem iss_alloc {a0} : isSt (.alloc a0) = false := id rfl
theorem iss_box {a0} : isSt (.box a0) = false := id rfl
theorem iss_build {a0 a1} : isSt (.build a0 a1) = false := id rfl
theorem iss_bslice {a0 a1 a2 a3} : isSt (.bslice a0 a1 a2 a3) = false := id rfl
theorem iss_ld {a0 a1 a2} : isSt (.ld a0 a1 a2) = false := id rfl
theorem iss_fa {a0 a1} : isSt (.fa a0 a1) = false := id rfl
theorem iss_fd {a0 a1 a2 a3} : isSt (.fd a0 a1 a2 a3) = false := id rfl
theorem iss_ias {a0 a1 a2} : isSt (.ias a0 a1 a2) = false := id rfl
theorem iss_iaa {a0 a1 a2 a3} : isSt (.iaa a0 a1 a2 a3) = false := id rfl
theorem iss_ixa {a0 a1 a2 a3 a4} : isSt (.ixa a0 a1 a2 a3 a4) = false := id rfl
theorem iss_ixs {a0 a1} : isSt (.ixs a0 a1) = false := id rfl
theorem iss_ext {a0 a1} : isSt (.ext a0 a1) = false := id rfl
theorem iss_bin {a0 a1 a2} : isSt (.bin a0 a1 a2) = false := id rfl
theorem iss_eqb {a0 a1 a2} : isSt (.eqb a0 a1 a2) = false := id rfl
theorem iss_eqn {a0 a1 a2} : isSt (.eqn a0 a1 a2) = false := id rfl
theorem iss_not {a0} : isSt (.not a0) = false := id rfl
theorem iss_neg {a0} : isSt (.neg a0) = false := id rfl
theorem iss_cv {a0 a1} : isSt (.cv a0 a1) = false := id rfl
theorem iss_b2s {a0} : isSt (.b2s a0) = false := id rfl
theorem iss_s2b {a0} : isSt (.s2b a0) = false := id rfl
theorem iss_mkf {a0 a1 a2} : isSt (.mkf a0 a1 a2) = false := id rfl
theorem iss_mki {a0 a1} : isSt (.mki a0 a1) = false := id rfl
theorem iss_len {a0} : isSt (.len a0) = false := id rfl
theorem iss_lens {a0} : isSt (.lens a0) = false := id rfl
theorem iss_cap {a0} : isSt (.cap a0) = false := id rfl
theorem iss_max2 {a0 a1} : isSt (.max2 a0 a1) = false := id rfl
theorem iss_min2 {a0 a1} : isSt (.min2 a0 a1) = false := id rfl
theorem iss_slc {a0 a1 a2 a3} : isSt (.slc a0 a1 a2 a3) = false := id rfl
theorem iss_sls {a0 a1 a2} : isSt (.sls a0 a1 a2) = false := id rfl
theorem iss_mks {a0 a1 a2 a3 a4} : isSt (.mks a0 a1 a2 a3 a4) = false := id rfl
theorem iss_app {a0 a1 a2 a3 a4} : isSt (.app a0 a1 a2 a3 a4) = false := id rfl
theorem iss_eqv {a0 a1 a2 a3} : isSt (.eqv a0 a1 a2 a3) = false := id rfl
theorem iss_cal {a0 a1} : isSt (.cal a0 a1) = false := id rfl
theorem iss_cav {a0 a1} : isSt (.cav a0 a1) = false := id rfl
theorem iss_pan {a0} : isSt (.pan a0) = false := id rfl
theorem iss_tas {a0 a1} : isSt (.tas a0 a1) = false := id rfl
theorem iss_eqi {a0 a1} : isSt (.eqi a0 a1) = false := id rfl
theorem thn_n {K : Env → Store → Prop} : thn K Q .normal e s = K e s := rfl
theorem thn_r {K : Env → Store → Prop} : thn K Q .ret e s = Q .ret e s := rfl
theorem thn_e {K : Env → Store → Prop} {i : Nat} : thn K Q (.exit i) e s = Q (.exit i) e s := rfl
theorem thn_p {K : Env → Store → Prop} {v : AV} : thn K Q (.pan v) e s = Q (.pan v) e s := rfl
theorem blk_n {i : Nat} : blk i Q .normal e s = Q .normal e s := rfl
theorem blk_r {i : Nat} : blk i Q .ret e s = Q .ret e s := rfl
theorem blk_e {i j : Nat} : blk i Q (.exit j) e s = (bif j == i then Q .normal e s else Q (.exit j) e s) := rfl
theorem blk_p {i : Nat} {v : AV} : blk i Q (.pan v) e s = Q (.pan v) e s := rfl
end
end Go.Proofs.Ytffiicopifmmfaa.Ai
namespace Go.Proofs.Ytffiicopifmmfaa.Ai
set_option linter.unusedSimpArgs false
set_option linter.unusedVariables false
set_option linter.unnecessarySimpa false
set_option linter.unusedSectionVars false
set_option linter.unusedVariables false

section
variable {α : Type} (St : α → Env × Store) (I : α → Prop) (μ : α → Nat)
def isSt' (e : Env) (s : Store) : Prop := ∃ a, I a ∧ (St a).1 = e ∧ (St a).2 = s
open Classical in
noncomputable def minM (e : Env) (s : Store) : Nat := if h : ∃ m a, I a ∧ (St a).1 = e ∧ (St a).2 = s ∧ μ a = m then Classical.choose (least _ h) else 0
theorem minM_le {a : α} (h : I a) : minM St I μ (St a).1 (St a).2 ≤ μ a := by
  have hex : ∃ m b, I b ∧ (St b).1 = (St a).1 ∧ (St b).2 = (St a).2 ∧ μ b = m := ⟨_, a, h, rfl, rfl, rfl⟩
  unfold minM; rw [dif_pos hex]
  exact (Classical.choose_spec (least _ hex)).2 _ ⟨a, h, rfl, rfl, rfl⟩
theorem minM_at {e : Env} {s : Store} (h : isSt' St I e s) : ∃ a, I a ∧ (St a).1 = e ∧ (St a).2 = s ∧ μ a = minM St I μ e s := by
  obtain ⟨a, ha, rfl, rfl⟩ := h
  have hex : ∃ m b, I b ∧ (St b).1 = (St a).1 ∧ (St b).2 = (St a).2 ∧ μ b = m := ⟨_, a, ha, rfl, rfl, rfl⟩
  unfold minM; rw [dif_pos hex]
  exact (Classical.choose_spec (least _ hex)).1

/-- The end of a round: a next state stands for the one at hand. -/
def rndQ (n0 : Nat) (m : Nat) (e : Env) (s : Store) : Prop := ∃ e' s', Wk n0 e s e' s' ∧ isSt' St I e' s' ∧ minM St I μ e' s' < m
theorem rnd_to {n0 m : Nat} {e : Env} {s : Store} (a : α) (h : I a) (hm : μ a < m) (hw : Wk n0 e s (St a).1 (St a).2) : rndQ St I μ n0 m e s :=
  ⟨_, _, hw, ⟨a, h, rfl, rfl⟩, Nat.lt_of_le_of_lt (minM_le St I μ h) hm⟩
theorem w_loopS {P : Program} {n0 : Nat} {Q : AX → Env → Store → Prop} {e : Env} {s : Store} {b : RQ} (a0 : α) (h0 : I a0) (hw : Wk n0 e s (St a0).1 (St a0).2)
    (h : ∀ a, I a → rwp P n0 b (thn (rndQ St I μ n0 (μ a)) Q) (St a).1 (St a).2) : rwp P n0 (.loop b) Q e s := by
  refine ⟨isSt' St I, minM St I μ, ⟨_, _, hw, a0, h0, rfl, rfl⟩, ?_⟩
  intro e s hs
  obtain ⟨b0, hb, rfl, rfl, h3⟩ := minM_at St I μ hs
  rw [← h3]
  exact h b0 hb
end

/-! ### Ends -/
theorem All2.refl {α : Type} {R : α → α → Prop} (h : ∀ x, R x x) : ∀ l : List α, All2 R l l
  | [] => trivial
  | x :: l => ⟨h x, All2.refl h l⟩
def rvE : List RV → AV → Option Env
  | [], .tup [] => some []
  | [.t t], v => some [(t, v)]
  | [.c t false 1], v => some [(t, .rop [v])]
  | [.c t true _], .agg cs => some [(t, .rop cs)]
  | .t t :: r :: l, .tup (v :: w :: vs) => (rvE2 (r :: l) (w :: vs)).map ((t, v) :: ·)
  | .c t false 1 :: r :: l, .tup (v :: w :: vs) => (rvE2 (r :: l) (w :: vs)).map ((t, .rop [v]) :: ·)
  | .c t true _ :: r :: l, .tup (.agg cs :: w :: vs) => (rvE2 (r :: l) (w :: vs)).map ((t, .rop cs) :: ·)
  | _, _ => none
where
  rvE2 : List RV → List AV → Option Env
  | [], [] => some []
  | .t t :: l, v :: vs => (rvE2 l vs).map ((t, v) :: ·)
  | .c t false 1 :: l, v :: vs => (rvE2 l vs).map ((t, .rop [v]) :: ·)
  | .c t true _ :: l, .agg cs :: vs => (rvE2 l vs).map ((t, .rop cs) :: ·)
  | _, _ => none

section
variable {rows : Rows} {Z : Nat → Bool}
theorem cv_self (v : AV) : Cv rows Z (fun i => i) v v := by
  suffices H : ∀ (n : Nat) (v : AV), SizeOf.sizeOf v < n → Cv rows Z (fun i => i) v v from H _ v (Nat.lt_succ_self _)
  intro n
  induction n with
  | zero => intro v h; omega
  | succ n ih =>
    intro v h
    have mem : ∀ {cs : List AV}, SizeOf.sizeOf cs < n → ∀ (j : Nat) (c d : AV), cs[j]? = some c → cs[j]? = some d → Cv rows Z (fun i => i) c d := by
      intro cs hs j c d hc hd
      rw [hc] at hd; cases hd
      exact ih c (Nat.lt_of_lt_of_le (List.sizeOf_lt_of_mem (List.mem_of_getElem? hc)) (by omega))
    cases v with
    | any => exact .any _
    | bool b => exact .bool b
    | int k m => exact .int k m
    | str s => exact .str s
    | nilp => exact .nilp
    | nils => exact .nils
    | nilf => exact .nilf
    | nili => exact .nili
    | nilm => exact .nilm
    | agg cs => simp only [AV.agg.sizeOf_spec] at h; exact .agg cs cs rfl (mem (by omega))
    | tup cs => simp only [AV.tup.sizeOf_spec] at h; exact .tup cs cs rfl (mem (by omega))
    | ros sz es =>
      simp only [AV.ros.sizeOf_spec] at h
      refine .ros sz es es rfl (fun i x y hx hy => by rw [hx] at hy; cases hy; rfl) fun i x y j c d hx hy hc hd => ?_
      rw [hx] at hy; cases hy
      exact mem (Nat.lt_of_lt_of_le (List.sizeOf_lt_of_mem (List.mem_of_getElem? hx)) (by omega)) j c d hc hd
    | rop cs => simp only [AV.rop.sizeOf_spec] at h; exact .rop cs cs rfl (mem (by omega))
    | sl id sz i m c => exact .sl id id sz i m c c rfl (.inl rfl)
    | pt id sz i o => exact .pt id id sz i o rfl
    | fn f xs ys =>
      simp only [AV.fn.sizeOf_spec] at h
      exact .fn f xs ys xs ys rfl rfl (mem (by omega)) (mem (by omega))
    | ifc t v => simp only [AV.ifc.sizeOf_spec] at h; exact .ifc t v v (ih v (by omega))
    | roe sz => exact .roe sz
    | opt t v => simp only [AV.opt.sizeOf_spec] at h; exact .opt t v v (ih v (by omega))
theorem cv_closed {rho : Nat → Nat} {v : AV} (h : Cl v) : Cv rows Z rho v v := by
  induction h with
  | any => exact .any _
  | bool b => exact .bool b
  | int k m => exact .int k m
  | str s => exact .str s
  | nilp => exact .nilp
  | nils => exact .nils
  | nilf => exact .nilf
  | nili => exact .nili
  | nilm => exact .nilm
  | agg cs h ih => exact .agg cs cs rfl fun j c d hc hd => by rw [hc] at hd; cases hd; exact ih c (List.mem_of_getElem? hc)
  | tup cs h ih => exact .tup cs cs rfl fun j c d hc hd => by rw [hc] at hd; cases hd; exact ih c (List.mem_of_getElem? hc)
  | ros sz es h ih => exact .ros sz es es rfl (fun i x y hx hy => by rw [hx] at hy; cases hy; rfl) fun i x y j c d hx hy hc hd => by (rw [hx] at hy; cases hy; rw [hc] at hd; cases hd; exact ih x (List.mem_of_getElem? hx) c (List.mem_of_getElem? hc))
  | rop cs h ih => exact .rop cs cs rfl fun j c d hc hd => by rw [hc] at hd; cases hd; exact ih c (List.mem_of_getElem? hc)
  | fn f xs ys h1 h2 ih1 ih2 => exact .fn f xs ys xs ys rfl rfl (fun j c d hc hd => by rw [hc] at hd; cases hd; exact ih1 c (List.mem_of_getElem? hc)) (fun j c d hc hd => by rw [hc] at hd; cases hd; exact ih2 c (List.mem_of_getElem? hc))
  | ifc t v h ih => exact .ifc t v v ih
  | roe sz => exact .roe sz
  | opt t v h ih => exact .opt t v v ih
theorem cv_ros_self {rho : Nat → Nat} {sz : Nat} {es : List (List AV)} (h : ∀ x ∈ es, ∀ c ∈ x, Cl c) : Cv rows Z rho (.ros sz es) (.ros sz es) := cv_closed (.ros sz es h)
theorem bel_ros_cl {k sz : Nat} {es : List (List AV)} (h : ∀ x ∈ es, ∀ c ∈ x, Cl c) : Bel k (.ros sz es) := (Cl.ros sz es h).bel
theorem bel_cells {k : Nat} {es : List (List AV)} (h : ∀ x ∈ es, ∀ c ∈ x, Cl c) : ∀ x ∈ es, ∀ c ∈ x, Bel k c := fun x hx c hc => (h x hx c hc).bel
theorem all2_self {rho : Nat → Nat} {es : List (List AV)} (h : ∀ x ∈ es, ∀ c ∈ x, Cl c) : All2 (All2 (Cv rows Z rho)) es es := by
  refine all2_of rfl fun j c d hc hd => ?_
  rw [hc] at hd; cases hd
  refine all2_of rfl fun i x y hx hy => ?_
  rw [hx] at hy; cases hy
  exact cv_closed (h c (List.mem_of_getElem? hc) x (List.mem_of_getElem? hx))
theorem one_int {k : IntKind} {n : Int} : (AV.int k n).one = True := rfl
theorem one_bool {b : Bool} : (AV.bool b).one = True := rfl
theorem one_str {s : ByteArray} : (AV.str s).one = True := rfl
theorem one_nils : (AV.nils).one = True := rfl
theorem one_ros {sz : Nat} {es : List (List AV)} : (AV.ros sz es).one = True := rfl
theorem one_sl {id sz i n : Nat} {k : Option Nat} : (AV.sl id sz i n k).one = True := rfl
theorem cv_refl {v : AV} : Cv rows Z (fun i => i) v v = True := eq_true (cv_self v)
theorem cv_slR {id sz q i n : Nat} {k : Option Nat} {fs : List (List AV)} : (match look rows id with
    | some r => r.sz = sz ∧ q = sz ∧ i + n ≤ r.es.length ∧ (∀ y ∈ fs, y.length = sz) ∧ Z id = true ∧ All2 (All2 (Cv rows Z (fun i => i))) ((r.es.drop i).take n) fs
    | none => False) → Cv rows Z (fun i => i) (.sl id sz i n k) (.ros q fs) := by
  intro h
  split at h
  · rename_i r hr
    exact cv_frz hr h.2.2.2.2.1 h.1 h.2.1 h.2.2.1 h.2.2.2.1 h.2.2.2.2.2
  · exact h.elim
end

theorem cv_slE {rows : Rows} {Z : Nat → Bool} {id sz q i n : Nat} {k : Option Nat} {fs : List (List AV)} {r : Row} (hr : look rows id = some r) (hz : Z id = true) (h1 : r.sz = sz ∧ q = sz) (h2 : i + n ≤ r.es.length ∧ ∀ y ∈ fs, y.length = sz) (h3 : (r.es.drop i).take n = fs) :
    Cv rows Z (fun i => i) (.sl id sz i n k) (.ros q fs) := cv_frz hr hz h1.1 h1.2 h2.1 h2.2 (h3 ▸ All2.refl (fun l => All2.refl cv_self l) _)

theorem cv_slF {rows : Rows} {Z : Nat → Bool} {id sz q n : Nat} {k : Option Nat} {fs : List (List AV)} {r : Row} (hr : look rows id = some r) (hz : Z id = true) (h1 : r.sz = sz ∧ q = sz) (h2 : ∀ y ∈ fs, y.length = sz) (h3 : r.es = fs) (hn : n = fs.length) :
    Cv rows Z (fun i => i) (.sl id sz 0 n k) (.ros q fs) := by
  subst hn; subst h3
  exact cv_slE hr hz h1 ⟨by omega, h2⟩ (by rw [List.drop_zero, List.take_length])
theorem cv_slG {rows : Rows} {Z : Nat → Bool} {rho : Nat → Nat} {id sz q n : Nat} {k : Option Nat} {fs : List (List AV)} {r : Row} (hr : look rows id = some r) (hz : Z id = true) (h1 : r.sz = sz ∧ q = sz) (h2 : ∀ y ∈ fs, y.length = sz) (h3 : r.es = fs) (hn : n = fs.length) (hc : ∀ x ∈ fs, ∀ c ∈ x, Cl c) :
    Cv rows Z rho (.sl id sz 0 n k) (.ros q fs) := by
  subst hn; subst h3
  exact cv_frz hr hz h1.1 h1.2 (by omega) h2 (by rw [List.drop_zero, List.take_length]; exact all2_self hc)
theorem cv_ptE {rows : Rows} {Z : Nat → Bool} {rho : Nat → Nat} {id sz i o : Nat} {ds : List AV} {r : Row} (hr : look rows id = some r) (hz : Z id = true) (h1 : r.sz = sz) (h2 : decide (i < r.es.length) = true) (h3 : decide (o + ds.length ≤ sz) = true) (h4 : All2 (Cv rows Z rho) (((r.es.getD i []).drop o).take ds.length) ds) :
    Cv rows Z rho (.pt id sz i o) (.rop ds) := by
  refine .ptf id sz i o r ds hz hr h1 (of_decide_eq_true h2) (of_decide_eq_true h3) fun j c d hc hd => ?_
  have hj : j < ds.length := (List.getElem?_eq_some_iff.1 hd).1
  exact all2_get h4 j c d (by rw [List.getElem?_take, if_pos hj, List.getElem?_drop]; exact hc) hd

/-- The end of a function whose results' rows nobody writes any more. -/
def cvAll (rows : Rows) (e : Env) : Env → Prop
  | [] => True
  | (t, v) :: l => (Cv rows (fun _ => true) (fun i => i) (get e t) v ∧ Cl v) ∧ cvAll rows e l
theorem cvAll_mem {rows : Rows} {e : Env} : ∀ {l : Env}, cvAll rows e l → ∀ x ∈ l, Cv rows (fun _ => true) (fun i => i) (get e x.1) x.2 ∧ Cl x.2
  | [], _, x, hx => by cases hx
  | (t, v) :: l, h, x, hx => by
    rcases List.mem_cons.1 hx with rfl | hx
    · exact h.1
    · exact cvAll_mem h.2 x hx
theorem Cl.bel0 {v : AV} (h : Cl v) {k : Nat} : Bel k v := h.bel
theorem ret_frz {rv : List RV} {v : AV} {e e' : Env} {s : Store} (h0 : rvE rv v = some e') (h1 : cvAll s.rows e e') (h2 : rvsC e' ⟨0, []⟩ rv) (h3 : tupV (rv.map (rvV e' ⟨0, []⟩)) = v) (h4 : Cl v) : retQ 0 rv v .ret e s := by
  refine ⟨e', ⟨0, []⟩, Wk.cv (fun _ => true) (fun i => i) (Nat.zero_le _) (fun _ _ => rfl) (fun x hx => ?_) (fun q hq => by cases hq) (fun q hq => by cases hq), h2, h3, h4⟩
  have := cvAll_mem h1 x hx
  exact ⟨this.1, this.2.bel⟩
theorem end_frz {rv : List RV} {v : AV} {e e' : Env} {s : Store} (h0 : rvE rv v = some e') (h1 : cvAll s.rows e e') (h2 : rvsC e' ⟨0, []⟩ rv) (h3 : tupV (rv.map (rvV e' ⟨0, []⟩)) = v) (h4 : Cl v) : retQ 0 rv v .normal e s := ret_frz h0 h1 h2 h3 h4

/-! ### Lists of things of one shape -/
theorem getD_map {α : Type} {xs : List α} {enc : α → List AV} {k : Nat} {x : α} (h : xs[k]? = some x) : (xs.map enc).getD k [] = enc x := by
  simp [List.getD, List.getElem?_map, h]
theorem take_map_len {α β : Type} {f : α → β} {l : List α} : (l.map f).take l.length = l.map f := List.take_of_length_le (by simp)
theorem cl_map {α : Type} {enc : α → List AV} (h : ∀ x, ∀ c ∈ enc x, Cl c) {sz : Nat} {xs : List α} : Cl (.ros sz (xs.map enc)) := by
  refine .ros sz _ fun y hy c hc => ?_
  obtain ⟨x, _, rfl⟩ := List.mem_map.1 hy
  exact h x c hc
theorem cl_ints {k : IntKind} {xs : List Int} {sz : Nat} : Cl (.ros sz (xs.map fun n => [AV.int k n])) = True := eq_true (cl_map fun x c hc => by
  rw [List.mem_singleton] at hc; subst hc; exact .int _ _)
theorem bel_ints {k : IntKind} {xs : List Int} {sz m : Nat} : Bel m (.ros sz (xs.map fun n => [AV.int k n])) = True := eq_true ((cl_map fun x c hc => by
  rw [List.mem_singleton] at hc; subst hc; exact .int _ _ : Cl _).bel)

/-- A slice that grows: nil at first. -/
def accV (id sz : Nat) : List (List AV) → AV
  | [] => .nils
  | x :: l => .sl id sz 0 (l.length + 1) none
def accR (id sz : Nat) : List (List AV) → Rows
  | [] => []
  | x :: l => [(id, ⟨sz, x :: l⟩)]
theorem accV_snoc {id sz : Nat} {es : List (List AV)} {x : List AV} : accV id sz (es ++ [x]) = .sl id sz 0 (es.length + 1) none := by
  cases es <;> simp [accV]
theorem accR_snoc {id sz : Nat} {es : List (List AV)} {x : List AV} : accR id sz (es ++ [x]) = [(id, ⟨sz, es ++ [x]⟩)] := by
  cases es <;> simp [accR]

/-! ### States told otherwise, item by item -/
def envAll (rows : Rows) (Z : Nat → Bool) (rho : Nat → Nat) (n : Nat) (e : Env) : Env → Prop
  | [] => True
  | (t, v) :: l => (Cv rows Z rho (get e t) v ∧ Bel n v) ∧ envAll rows Z rho n e l
def cellsCv (rows : Rows) (Z : Nat → Bool) (rho : Nat → Nat) (n : Nat) (es fs : List (List AV)) : Prop := All2 (All2 (Cv rows Z rho)) es fs ∧ ∀ x ∈ fs, ∀ v ∈ x, Bel n v
def rowCv (rows : Rows) (Z : Nat → Bool) (rho : Nat → Nat) (n : Nat) : Option Row → Row → Prop
  | some r0, r => r.sz = r0.sz ∧ cellsCv rows Z rho n r0.es r.es
  | none, _ => False
def rowsAll (rows : Rows) (Z : Nat → Bool) (rho : Nat → Nat) (n : Nat) : Rows → Prop
  | [] => True
  | (id, r) :: l => (id < n ∧ Z (rho id) = false ∧ rowCv rows Z rho n (look rows (rho id)) r) ∧ rowsAll rows Z rho n l
theorem cellsCv_eq {rows : Rows} {Z : Nat → Bool} {rho : Nat → Nat} {n : Nat} {es fs : List (List AV)} (h : fs = es) (hc : ∀ x ∈ es, ∀ v ∈ x, Cl v) : cellsCv rows Z rho n es fs := by
  subst h; exact ⟨all2_self hc, bel_cells hc⟩
theorem envAll_mem {rows : Rows} {Z : Nat → Bool} {rho : Nat → Nat} {n : Nat} {e : Env} : ∀ {l : Env}, envAll rows Z rho n e l → ∀ x ∈ l, Cv rows Z rho (get e x.1) x.2 ∧ Bel n x.2
  | [], _, x, hx => by cases hx
  | (t, v) :: l, h, x, hx => by
    rcases List.mem_cons.1 hx with rfl | hx
    · exact h.1
    · exact envAll_mem h.2 x hx
theorem rowsAll_mem {rows : Rows} {Z : Nat → Bool} {rho : Nat → Nat} {n : Nat} : ∀ {l : Rows}, rowsAll rows Z rho n l → ∀ q ∈ l, q.1 < n ∧ Z (rho q.1) = false ∧ rowCv rows Z rho n (look rows (rho q.1)) q.2
  | [], _, x, hx => by cases hx
  | (t, v) :: l, h, x, hx => by
    rcases List.mem_cons.1 hx with rfl | hx
    · exact h.1
    · exact rowsAll_mem h.2 x hx
theorem Wk.ren {n0 : Nat} {e e' : Env} {s s' : Store} (Z : Nat → Bool) (rho : Nat → Nat) (hn : n0 ≤ s'.nx) (h0 : ∀ i, i < n0 → rho i = i) (he : envAll s.rows Z rho s'.nx e e') (hr : rowsAll s.rows Z rho s'.nx s'.rows)
    (hinj : ∀ q ∈ s'.rows, ∀ q' ∈ s'.rows, rho q.1 = rho q'.1 → q.1 = q'.1) : Wk n0 e s e' s' := by
  refine Wk.cv Z rho hn h0 (envAll_mem he) (fun q hq => ?_) hinj
  obtain ⟨h1, hz, h2⟩ := rowsAll_mem hr q hq
  refine ⟨h1, ?_⟩
  cases hl : look s.rows (rho q.1) with
  | none => rw [hl] at h2; exact h2.elim
  | some r => rw [hl] at h2; exact ⟨r, rfl, hz, h2.1, h2.2.1, h2.2.2⟩

/-! ### Empty slices, nil or not -/
def prodL : List (List AV) → List (List AV)
  | [] => [[]]
  | x :: l => x.flatMap fun a => (prodL l).map (a :: ·)
def ref0 : AV → List AV
  | .ros sz [] => [.nils, .roe sz]
  | v => [v]
def ref1 : AV → List AV
  | .agg cs => (prodL (cs.map ref0)).map .agg
  | v => ref0 v
section
variable {F : Nat → Prop} {w : World} {p : Place} {D : Nat → Prop}
theorem ref0_vr {v : AV} {u : Value} (h : VR F w p D v u) : ∃ v', v' ∈ ref0 v ∧ VR F w p D v' u := by
  by_cases hv : ∃ sz, v = .ros sz []
  · obtain ⟨sz, rfl⟩ := hv
    cases h with
    | rosNil => exact ⟨.nils, by simp [ref0], .nils⟩
    | rosEmp _ a cap => exact ⟨.roe sz, by simp [ref0], .roe sz a cap⟩
    | ros _ _ b o cap c t fz hb hF hcap hsz hr h => exact ⟨.roe sz, by simp [ref0], .roe sz _ cap⟩
  · refine ⟨v, ?_, h⟩
    unfold ref0
    split
    · rename_i sz
      exact absurd ⟨sz, rfl⟩ hv
    · simp
theorem prodL_vr {f : AV → List AV} (hf : ∀ v u, VR F w p D v u → ∃ v', v' ∈ f v ∧ VR F w p D v' u) : ∀ (cs : List AV) (us : List Value), (∀ (j : Nat) (v : AV), cs[j]? = some v → VR F w p D v (us.getD j undef)) →
    ∃ ds, ds ∈ prodL (cs.map f) ∧ ds.length = cs.length ∧ ∀ (j : Nat) (v : AV), ds[j]? = some v → VR F w p D v (us.getD j undef)
  | [], us, h => ⟨[], by simp [prodL], rfl, by simp⟩
  | c :: cs, us, h => by
    obtain ⟨d, hd, hv⟩ := hf c _ (h 0 c rfl)
    obtain ⟨ds, h1, h2, h3⟩ := prodL_vr hf cs us.tail fun j v hj => by
      have := h (j + 1) v (by simpa using hj)
      cases us with
      | nil => simpa using this
      | cons u us => simpa using this
    refine ⟨d :: ds, ?_, by simp [h2], fun j v hj => ?_⟩
    · simp only [List.map_cons, prodL, List.mem_flatMap, List.mem_map]
      exact ⟨d, hd, ds, h1, rfl⟩
    · cases j with
      | zero => simp at hj; subst hj; exact hv
      | succ j =>
        have := h3 j v (by simpa using hj)
        cases us with
        | nil => simpa using this
        | cons u us => simpa using this
theorem ref1_vr {v : AV} {u : Value} (h : VR F w p D v u) : ∃ v', v' ∈ ref1 v ∧ VR F w p D v' u := by
  by_cases hv : ∃ cs, v = .agg cs
  · obtain ⟨cs, rfl⟩ := hv
    cases h with
    | agg _ us hs hh =>
      obtain ⟨ds, h1, h2, h3⟩ := prodL_vr (fun v u => ref0_vr) cs us.toList fun j v hj => by
        have := hh j v hj
        rw [Array.getD_eq_getD_getElem?] at this
        rw [List.getD_eq_getElem?_getD]
        simpa using this
      refine ⟨.agg ds, List.mem_map.2 ⟨ds, h1, rfl⟩, .agg ds us (by rw [hs, h2]) fun j v hj => ?_⟩
      have := h3 j v hj
      rw [List.getD_eq_getElem?_getD] at this
      rw [Array.getD_eq_getD_getElem?]
      simpa using this
  · obtain ⟨v', h1, h2⟩ := ref0_vr h
    refine ⟨v', ?_, h2⟩
    unfold ref1
    split
    · rename_i cs
      exact absurd ⟨cs, rfl⟩ hv
    · exact h1
theorem cargs_ref {xs : List AV} {args : Array Value} (h : CArgs F w xs args) : ∃ ys, ys ∈ prodL (xs.map ref1) ∧ CArgs F w ys args := by
  obtain ⟨ds, h1, h2, h3⟩ := prodL_vr (fun v u => ref1_vr) xs args.toList fun j v hj => by
    have := h.2 j v hj
    rw [Array.getD_eq_getD_getElem?] at this
    rw [List.getD_eq_getElem?_getD]
    simpa using this
  refine ⟨ds, h1, by rw [h2]; exact h.1, fun j v hj => ?_⟩
  have := h3 j v hj
  rw [List.getD_eq_getElem?_getD] at this
  rw [Array.getD_eq_getD_getElem?]
  simpa using this
/-- What holds for each empty slice, nil or not. -/
theorem PCall.emps {P : Program} {f : FuncId} {xs : List AV} {v : AV} (h : ∀ ys, ys ∈ prodL (xs.map ref1) → PCall P f ys v) (hne : ∃ ys, ys ∈ prodL (xs.map ref1)) : PCall P f xs v := by
  obtain ⟨y0, hy0⟩ := hne
  refine ⟨(h y0 hy0).enter, fun F w args ho ha => ?_⟩
  obtain ⟨ys, h1, h2⟩ := cargs_ref ha
  exact (h ys h1).run F w args ho h2

/-- y is told by x too. -/
inductive Ge : AV → AV → Prop
  | refl (v : AV) : Ge v v
  | nil (sz : Nat) : Ge .nils (.ros sz [])
  | roe (sz : Nat) : Ge (.roe sz) (.ros sz [])
  | any (v : AV) : Ge v .any
  | agg (cs ds : List AV) (hl : ds.length = cs.length) (h : ∀ (j : Nat) (c d : AV), cs[j]? = some c → ds[j]? = some d → Ge c d) : Ge (.agg cs) (.agg ds)
theorem ge_vr {y x : AV} (h : Ge y x) : ∀ {u : Value}, VR F w p D y u → VR F w p D x u := by
  induction h with
  | refl v => intro u h; exact h
  | nil sz => intro u h; cases h; exact .rosNil sz
  | roe sz => intro u h; cases h with | roe _ a cap => exact .rosEmp sz a cap
  | any v => intro u h; exact .any u
  | agg cs ds hl hh ih =>
    intro u h
    cases h with | agg _ us h1 h2 =>
    refine .agg ds us (by rw [hl, h1]) fun j d hd => ?_
    have hj : j < cs.length := by rw [← hl]; exact (List.getElem?_eq_some_iff.1 hd).1
    exact ih j _ d (List.getElem?_eq_getElem hj) hd (h2 j _ (List.getElem?_eq_getElem hj))
theorem PCall.weak {P : Program} {f : FuncId} {xs ys : List AV} {v : AV} (h : PCall P f xs v) (hw : All2 Ge ys xs) : PCall P f ys v := by
  refine ⟨h.enter, fun F w args ho ha => h.run F w args ho ⟨by rw [all2_len hw]; exact ha.1, fun j x hx => ?_⟩⟩
  have hj : j < ys.length := by rw [← all2_len hw]; exact (List.getElem?_eq_some_iff.1 hx).1
  exact ge_vr (all2_get hw j _ x (List.getElem?_eq_getElem hj) hx) (ha.2 j _ (List.getElem?_eq_getElem hj))
end
/-- A slice of these elements, that nobody writes; empty: nil or not. -/
def isSl (sz : Nat) (v : AV) : List (List AV) → Prop
  | [] => v = .nils ∨ v = .roe sz
  | x :: l => v = .ros sz (x :: l)
theorem isSl_ge {sz : Nat} {v : AV} {es : List (List AV)} (h : isSl sz v es) : Ge v (.ros sz es) := by
  cases es with
  | nil => rcases h with rfl | rfl; exact .nil sz; exact .roe sz
  | cons x l => rw [h]; exact .refl _
theorem ge_agg {cs ds : List AV} (h : All2 Ge cs ds) : Ge (.agg cs) (.agg ds) := .agg cs ds (all2_len h) (all2_get h)
theorem isSl_ref {sz : Nat} {v : AV} {es : List (List AV)} (h : v ∈ ref0 (.ros sz es)) : isSl sz v es := by
  cases es with
  | nil => simpa [ref0, isSl] using h
  | cons x l => simpa [ref0, isSl] using h

theorem look_lt {rows : Rows} {m : Nat} (h : rows.all (fun q => decide (q.1 < m)) = true) : ∀ id r, look rows id = some r → id < m := fun id r hl => by
  simpa using List.all_eq_true.1 h _ (look_mem hl)
theorem all_accR {id sz m : Nat} {es : List (List AV)} (h : id < m) : (accR id sz es).all (fun q => decide (q.1 < m)) = true := by cases es <;> simp [accR, h]

/-! ### Calls that may panic -/
theorem outQ_pan {rv : List RV} {o : AO} {v : AV} {e : Env} {s : Store} (h : o = .pan v) (hc : Cl v) : outQ 0 rv o ⟨0, []⟩ (.pan v) e s :=
  ⟨[], Wk.to (Nat.le_refl _) (Nat.zero_le _) (by simp) (by simp), h, hc⟩
theorem outQ_unit {o : AO} {e : Env} {s : Store} (h : o = .ret (.tup [])) : outQ 0 [] o ⟨0, []⟩ .ret e s :=
  ⟨[], Wk.to (Nat.le_refl _) (Nat.zero_le _) (by simp) (by simp), trivial, h⟩
theorem outQ_unitN {o : AO} {e : Env} {s : Store} (h : o = .ret (.tup [])) : outQ 0 [] o ⟨0, []⟩ .normal e s := outQ_unit h
theorem outQ_frz {rv : List RV} {v : AV} {e e' : Env} {s : Store} (h0 : rvE rv v = some e') (h1 : cvAll s.rows e e') (h2 : rvsC e' ⟨0, []⟩ rv) (h3 : tupV (rv.map (rvV e' ⟨0, []⟩)) = v) : outQ 0 rv (.ret v) ⟨0, []⟩ .ret e s := by
  refine ⟨e', Wk.cv (fun _ => true) (fun i => i) (Nat.zero_le _) (fun _ _ => rfl) (fun x hx => ?_) (fun q hq => by cases hq) (fun q hq => by cases hq), h2, by rw [h3]⟩
  have := cvAll_mem h1 x hx
  exact ⟨this.1, this.2.bel⟩
def outR (b : Bool) (v u : AV) : AO := bif b then .ret v else .pan u
theorem outK_split {K Kp : AV → Store → Prop} {b : Bool} {v u : AV} {s : Store} (h1 : b = true → K v s) (h2 : b = false → Kp u s) : outK K Kp (outR b v u) s := by
  cases b with
  | true => exact h1 rfl
  | false => exact h2 rfl

theorem outR_cl {b : Bool} {v u : AV} (h1 : Cl v) (h2 : Cl u) : outCl (outR b v u) := by cases b <;> assumption
end Go.Proofs.Ytffiicopifmmfaa.Ai
namespace Go.Proofs.Ytffiicopifmmfaa.Ai
set_option linter.unusedSimpArgs false
set_option linter.unusedVariables false
set_option linter.unnecessarySimpa false
set_option linter.unusedSectionVars false
set_option linter.unusedVariables false

/-- Values that lean on no frozen memory. -/
inductive Fl : AV → Prop
  | any : Fl .any
  | bool (b : Bool) : Fl (.bool b)
  | int (k : IntKind) (n : Int) : Fl (.int k n)
  | str (s : ByteArray) : Fl (.str s)
  | nilp : Fl .nilp
  | nils : Fl .nils
  | nilf : Fl .nilf
  | nili : Fl .nili
  | nilm : Fl .nilm
  | agg (cs : List AV) (h : ∀ c ∈ cs, Fl c) : Fl (.agg cs)
  | tup (cs : List AV) (h : ∀ c ∈ cs, Fl c) : Fl (.tup cs)
  | sl (id sz i n : Nat) (c : Option Nat) : Fl (.sl id sz i n c)
  | pt (id sz i o : Nat) : Fl (.pt id sz i o)
  | ifc (t : TypeId) (v : AV) (h : Fl v) : Fl (.ifc t v)
  | roe (sz : Nat) : Fl (.roe sz)
theorem VR.flat {F F' : Nat → Prop} {w : World} {p : Place} {D : Nat → Prop} {v : AV} {u : Value} (h : VR F w p D v u) (hf : Fl v) : VR F' w p D v u := by
  induction hf generalizing u with
  | any => exact .any _
  | bool b => cases h; exact .bool b
  | int kk n => cases h; exact .int kk n
  | str s => cases h; exact .str s
  | nilp => cases h; exact .nilp
  | nils => cases h; exact .nils
  | nilf => cases h; exact .nilf
  | nili => cases h; exact .nili
  | nilm => cases h; exact .nilm
  | agg cs hc ih => cases h with | agg _ us hs h => exact .agg cs us hs fun j v hj => ih v (List.mem_of_getElem? hj) (h j v hj)
  | tup cs hc ih => cases h with | tup _ us hs h => exact .tup cs us hs fun j v hj => ih v (List.mem_of_getElem? hj) (h j v hj)
  | sl id sz i n c => cases h with | sl _ _ _ _ _ a cap hid hn hk ha => exact .sl id sz i n c a cap hid hn hk ha
  | pt id sz i o => cases h with | pt _ _ _ _ hid => exact .pt id sz i o hid
  | ifc t v hc ih => cases h with | ifc _ _ u h => exact .ifc t v u (ih h)
  | roe sz => cases h with | roe _ a cap => exact .roe sz a cap
theorem fl_any : Fl .any = True := eq_true .any
theorem fl_bool {b : Bool} : Fl (.bool b) = True := eq_true (.bool b)
theorem fl_int {kk : IntKind} {n : Int} : Fl (.int kk n) = True := eq_true (.int kk n)
theorem fl_str {s : ByteArray} : Fl (.str s) = True := eq_true (.str s)
theorem fl_nilp : Fl .nilp = True := eq_true .nilp
theorem fl_nils : Fl .nils = True := eq_true .nils
theorem fl_nilf : Fl .nilf = True := eq_true .nilf
theorem fl_nili : Fl .nili = True := eq_true .nili
theorem fl_nilm : Fl .nilm = True := eq_true .nilm
theorem fl_roe {sz : Nat} : Fl (.roe sz) = True := eq_true (.roe sz)
theorem fl_sl {id sz i n : Nat} {c : Option Nat} : Fl (.sl id sz i n c) = True := eq_true (.sl id sz i n c)
theorem fl_pt {id sz i o : Nat} : Fl (.pt id sz i o) = True := eq_true (.pt id sz i o)
theorem fl_agg {cs : List AV} : Fl (.agg cs) = ∀ c ∈ cs, Fl c := propext ⟨fun h => by cases h; assumption, .agg cs⟩
theorem fl_tup {cs : List AV} : Fl (.tup cs) = ∀ c ∈ cs, Fl c := propext ⟨fun h => by cases h; assumption, .tup cs⟩
theorem fl_ifc {t : TypeId} {v : AV} : Fl (.ifc t v) = Fl v := propext ⟨fun h => by cases h; assumption, .ifc t v⟩

def frzArg (rows : Rows) (x x' : AV) : Prop := Cv rows (fun _ => true) (fun i => i) x x' ∧ Cl x'
def flRows : Rows → Prop
  | [] => True
  | (_, r) :: l => (∀ x ∈ r.es, ∀ c ∈ x, Fl c) ∧ flRows l
theorem flRows_look {l : Rows} (h : flRows l) {id : Nat} {r : Row} (hl : look l id = some r) : ∀ x ∈ r.es, ∀ c ∈ x, Fl c := by
  induction l with
  | nil => cases hl
  | cons x l ih =>
    obtain ⟨k, q⟩ := x
    rw [look_cons] at hl
    split at hl
    · cases hl; exact h.1
    · exact ih h.2 hl

section
variable {P : Program} {f : FuncId} {xs xs' : List AV} {m : Nat} {new : Rows} {v : AV} {s : Store}
/-- A call that reads rows of the caller. -/
theorem RCall.frz (h : RCall P f xs' s.nx m new v) (hx : All2 (frzArg s.rows) xs xs') (hv : Fl v) (hnew : flRows new) : SCall P f xs s (.ret v) ⟨s.nx + m, new ++ s.rows⟩ := by
  refine ⟨h.enter, fun F w p args hs ha => ?_⟩
  have hold : ∀ b, frozenIn F p s.rows (fun _ => true) b → b < w.heap.size := by
    rintro b (hb | ⟨id, r, _, hl, rfl⟩)
    · exact hs.old b hb
    · obtain ⟨_, _, ⟨_, _, _, hb, _⟩, _⟩ := hs.row id r hl
      exact lt_of_heap hb
  have hargs : CArgs (frozenIn F p s.rows (fun _ => true)) w xs' args := by
    refine ⟨by rw [all2_len hx]; exact ha.1, fun j x' hj => ?_⟩
    have hlt : j < xs.length := by rw [← all2_len hx]; exact (List.getElem?_eq_some_iff.1 hj).1
    obtain ⟨h1, h2⟩ := all2_get hx j _ x' (List.getElem?_eq_getElem hlt) hj
    have := ha.2 j _ (List.getElem?_eq_getElem hlt)
    exact (VR.cv (D' := fun i => i < s.nx) hs (fun _ h => h) h1 this).closed h2
  refine Calls.mono (h.run _ w args hold hargs) ?_
  rintro e w' ⟨u, rfl, F', p1, hp⟩
  have hq : PRm F w p (fun i => i < s.nx) s.nx m F w' u new v (fun i => if s.nx ≤ i ∧ i < s.nx + m then p1 i else p i) := by
    have g := hp.at (p := p) (D := fun i => i < s.nx)
    refine ⟨g.grow, fun _ h => h, fun _ h => .inl h, g.keep, fun id r hl => ?_, g.apart, g.val.flat hv⟩
    obtain ⟨a1, a2, a3, _, ⟨⟨c, t, fz, hb, hf, hr, hv2⟩, hz⟩⟩ := g.nrow _ _ hl
    have hfl := flRows_look hnew hl
    exact ⟨a1, a2, a3, fun hF => by have := hs.old _ hF; omega, ⟨c, t, fz, hb, hf, hr, fun i x j v hx hj => (hv2 i x j v hx hj).flat (hfl x (List.mem_of_getElem? hx) v (List.mem_of_getElem? hj))⟩, hz⟩
  obtain ⟨h1, h2, h3, _⟩ := hq.store hs (Nat.le_refl _)
  exact ⟨F, _, .ret v u h3, h1, h2⟩
theorem PCall.frz (h : PCall P f xs' v) (hx : All2 (frzArg s.rows) xs xs') (hv : Fl v) : SCall P f xs s (.ret v) s := (h.r (k := s.nx)).frz hx hv trivial

/-- What a call gives in rows of its own, made still. -/
theorem RCall.still {v' : AV} (h : RCall P f xs 0 m new v) (hc : Cv new (fun _ => true) (fun i => i) v v') (hcl : Cl v') : PCall P f xs v' := by
  refine ⟨h.enter, fun F w args ho ha => Calls.mono (h.run F w args ho ha) ?_⟩
  rintro e w' ⟨u, rfl, F', p1, hp⟩
  have hg := hp
  have hs : SRel F' w' p1 (fun i => False ∨ (0 ≤ i ∧ i < 0 + m)) new := by
    refine ⟨fun id r hl => ?_, hg.apart, fun b hb => ?_⟩
    · obtain ⟨a1, _, _, a4, a5⟩ := hg.nrow _ _ hl
      exact ⟨.inr a1, a4, a5⟩
    · rcases hg.newF b hb with h1 | h1
      · exact Nat.lt_of_lt_of_le (ho b h1) hg.grow.size
      · exact h1.2
  refine ⟨u, rfl, frozenIn F' p1 new (fun _ => true), hg.grow, fun b hb => .inl (hg.inF b hb), ?_, (VR.cv (D' := fun i => False ∨ (0 ≤ i ∧ i < 0 + m)) hs (fun _ h => h) hc hg.val).closed hcl⟩
  rintro b (hb | ⟨id, r, _, hl, rfl⟩)
  · exact hg.newF b hb
  · obtain ⟨_, a2, a3, _⟩ := hg.nrow _ _ hl
    exact .inr ⟨a2, a3⟩
theorem RCall.emps {k : Nat} (h : ∀ ys, ys ∈ prodL (xs.map ref1) → RCall P f ys k m new v) (hne : ∃ ys, ys ∈ prodL (xs.map ref1)) : RCall P f xs k m new v := by
  obtain ⟨y0, hy0⟩ := hne
  refine ⟨(h y0 hy0).enter, (h y0 hy0).rng, fun F w args ho ha => ?_⟩
  obtain ⟨ys, h1, h2⟩ := cargs_ref ha
  exact (h ys h1).run F w args ho h2
theorem RCall.weak {ys : List AV} {k : Nat} (h : RCall P f xs k m new v) (hw : All2 Ge ys xs) : RCall P f ys k m new v := by
  refine ⟨h.enter, h.rng, fun F w args ho ha => h.run F w args ho ⟨by rw [all2_len hw]; exact ha.1, fun j x hx => ?_⟩⟩
  have hj : j < ys.length := by rw [← all2_len hw]; exact (List.getElem?_eq_some_iff.1 hx).1
  exact ge_vr (all2_get hw j _ x (List.getElem?_eq_getElem hj) hx) (ha.2 j _ (List.getElem?_eq_getElem hj))
end

/-- Two slices of a struct, empty: nil or not. -/
theorem isSl_vr {F : Nat → Prop} {w : World} {p : Place} {D : Nat → Prop} {sz : Nat} {es : List (List AV)} {u : Value} (h : VR F w p D (.ros sz es) u) : ∃ v, isSl sz v es ∧ VR F w p D v u := by
  obtain ⟨v, h1, h2⟩ := ref0_vr h
  exact ⟨v, isSl_ref h1, h2⟩
theorem agg2_vr {F : Nat → Prop} {w : World} {p : Place} {D : Nat → Prop} {s1 s2 : Nat} {o q : List (List AV)} {l : List AV} {u : Value} (h : VR F w p D (.agg (.ros s1 o :: .ros s2 q :: l)) u) :
    ∃ oV qV, isSl s1 oV o ∧ isSl s2 qV q ∧ VR F w p D (.agg (oV :: qV :: l)) u := by
  cases h with
  | agg _ us hs hh =>
    obtain ⟨oV, h1, h2⟩ := isSl_vr (hh 0 _ rfl)
    obtain ⟨qV, h3, h4⟩ := isSl_vr (hh 1 _ rfl)
    refine ⟨oV, qV, h1, h3, .agg _ us hs fun j v hj => ?_⟩
    match j, hj with
    | 0, hj => simp at hj; subst hj; exact h2
    | 1, hj => simp at hj; subst hj; exact h4
    | j + 2, hj => exact hh (j + 2) v (by simpa using hj)
theorem isSl_any (sz : Nat) (es : List (List AV)) : ∃ v, isSl sz v es := by
  cases es with
  | nil => exact ⟨.nils, .inl rfl⟩
  | cons x l => exact ⟨_, rfl⟩
section
variable {P : Program} {f : FuncId} {m k : Nat} {new : Rows} {v a : AV} {s1 s2 : Nat} {o q : List (List AV)} {l post : List AV}
theorem cargs2 {F : Nat → Prop} {w : World} {args : Array Value} (ha : CArgs F w (a :: .agg (.ros s1 o :: .ros s2 q :: l) :: post) args) : ∃ oV qV, isSl s1 oV o ∧ isSl s2 qV q ∧ CArgs F w (a :: .agg (oV :: qV :: l) :: post) args := by
  obtain ⟨oV, qV, h1, h2, h3⟩ := agg2_vr (ha.2 1 _ rfl)
  refine ⟨oV, qV, h1, h2, ha.1, fun j x hx => ?_⟩
  match j, hx with
  | 0, hx => exact ha.2 0 x (by simpa using hx)
  | 1, hx => simp at hx; subst hx; exact h3
  | j + 2, hx => exact ha.2 (j + 2) x (by simpa using hx)
theorem RCall.emp2 (h : ∀ oV qV, isSl s1 oV o → isSl s2 qV q → RCall P f (a :: .agg (oV :: qV :: l) :: post) k m new v) : RCall P f (a :: .agg (.ros s1 o :: .ros s2 q :: l) :: post) k m new v := by
  obtain ⟨o0, h1⟩ := isSl_any s1 o
  obtain ⟨q0, h2⟩ := isSl_any s2 q
  refine ⟨(h _ _ h1 h2).enter, (h _ _ h1 h2).rng, fun F w args ho ha => ?_⟩
  obtain ⟨oV, qV, k1, k2, k3⟩ := cargs2 ha
  exact (h _ _ k1 k2).run F w args ho k3
theorem PCall.emp2 (h : ∀ oV qV, isSl s1 oV o → isSl s2 qV q → PCall P f (a :: .agg (oV :: qV :: l) :: post) v) : PCall P f (a :: .agg (.ros s1 o :: .ros s2 q :: l) :: post) v := by
  obtain ⟨o0, h1⟩ := isSl_any s1 o
  obtain ⟨q0, h2⟩ := isSl_any s2 q
  refine ⟨(h _ _ h1 h2).enter, fun F w args ho ha => ?_⟩
  obtain ⟨oV, qV, k1, k2, k3⟩ := cargs2 ha
  exact (h _ _ k1 k2).run F w args ho k3
end

def dfrE (n0 : Nat) (rv : List RV) (o : AO) (s' : Store) (e : Env) (x : AX) (_ : Env) (s3 : Store) : Prop := (x = .normal ∨ x = .ret) ∧ ∃ e', Wk n0 e s3 e' s' ∧ rvsC e' s' rv ∧ o = .ret (tupV (rv.map (rvV e' s')))
theorem dfrG_eq {P : Program} {n0 : Nat} {rv : List RV} {o : AO} {s' : Store} {qG : RQ} {t1 t2 : Nat} {ys : List AV} {v : AV} {e : Env} {s : Store} :
    dfrG P n0 rv o s' qG t1 t2 ys v e s = rwp P s.nx qG (dfrE n0 rv o s' e) (put (put (argE 0 ys) (some t1) v) (some t2) v) s := rfl
theorem dfr_end {rv : List RV} {v : AV} {x : AX} {e e' e2 : Env} {s : Store} (hx : x = .normal ∨ x = .ret) (h0 : rvE rv v = some e') (h1 : cvAll s.rows e e') (h2 : rvsC e' ⟨0, []⟩ rv) (h3 : tupV (rv.map (rvV e' ⟨0, []⟩)) = v) :
    dfrE 0 rv (.ret v) ⟨0, []⟩ e x e2 s := ⟨hx, outQ_frz h0 h1 h2 h3⟩
theorem map_self {α : Type} {f : α → α} : ∀ {l : List α}, (∀ x ∈ l, f x = x) → l.map f = l
  | [], _ => rfl
  | x :: l, h => by rw [List.map_cons, h x List.mem_cons_self, map_self fun y hy => h y (List.mem_cons_of_mem _ hy)]
theorem one_roe {sz : Nat} : (AV.roe sz).one = True := rfl
theorem le0 {n : Nat} : (n + 1 ≤ 0) = False := by simp
theorem outQ_ret {rv : List RV} {v : AV} {e e' : Env} {s s1 : Store} {n0 : Nat} (h0 : rvE rv v = some e') (h1 : Wk n0 e s e' s1) (h2 : rvsC e' s1 rv) (h3 : tupV (rv.map (rvV e' s1)) = v) : outQ n0 rv (.ret v) s1 .ret e s := ⟨e', h1, h2, by rw [h3]⟩
/-- Rows by new numbers, that are found on the way. -/
def rhoA (a b c : Nat) : Nat → Nat
  | 0 => a
  | 1 => b
  | 2 => c
  | n + 3 => n + 3
theorem rhoA_0 {a b c : Nat} : rhoA a b c 0 = a := rfl
theorem rhoA_1 {a b c : Nat} : rhoA a b c 1 = b := rfl
theorem rhoA_2 {a b c : Nat} : rhoA a b c 2 = c := rfl
theorem Wk.renA {a b c : Nat} {e e' : Env} {s s' : Store} (Z : Nat → Bool) (he : envAll s.rows Z (rhoA a b c) s'.nx e e') (hr : rowsAll s.rows Z (rhoA a b c) s'.nx s'.rows)
    (hinj : ∀ q ∈ s'.rows, ∀ q' ∈ s'.rows, rhoA a b c q.1 = rhoA a b c q'.1 → q.1 = q'.1) : Wk 0 e s e' s' := Wk.ren Z _ (Nat.zero_le _) (fun i hi => absurd hi (Nat.not_lt_zero _)) he hr hinj
/-- Values that lie in no row are as they were by whatever number. -/
theorem sh_cl {v : AV} (h : Cl v) (k : Nat) : v.sh k = v := by
  induction h with
  | any => rfl
  | bool b => rfl
  | int kk n => rfl
  | str s => rfl
  | nilp => rfl
  | nils => rfl
  | nilf => rfl
  | nili => rfl
  | nilm => rfl
  | agg cs h ih => simp only [AV.sh, shL_map, AV.agg.injEq]; exact map_self ih
  | tup cs h ih => simp only [AV.sh, shL_map, AV.tup.injEq]; exact map_self ih
  | ros sz es h ih => simp only [AV.sh, shLL_map, AV.ros.injEq, true_and]; exact map_self fun x hx => map_self (ih x hx)
  | rop cs h ih => simp only [AV.sh, shL_map, AV.rop.injEq]; exact map_self ih
  | fn f xs ys h1 h2 ih1 ih2 => simp only [AV.sh, shL_map, AV.fn.injEq, true_and]; exact ⟨map_self ih1, map_self ih2⟩
  | ifc t v h ih => simp only [AV.sh, ih]
  | roe sz => rfl
  | opt t v h ih => simp only [AV.sh, ih]
theorem shLL_cl {es : List (List AV)} (h : ∀ x ∈ es, ∀ c ∈ x, Cl c) (k : Nat) : shLL k es = es := by
  rw [shLL_map]; exact map_self fun x hx => map_self fun c hc => sh_cl (h x hx c hc) k
theorem accV_sh {id sz k : Nat} {es : List (List AV)} : (accV id sz es).sh k = accV (id + k) sz es := by cases es <;> rfl
theorem accR_sh {id sz k : Nat} {es : List (List AV)} (h : ∀ x ∈ es, ∀ c ∈ x, Cl c) : shR k (accR id sz es) = accR (id + k) sz es := by
  cases es with
  | nil => rfl
  | cons x l => simp only [accR, shR, shLL_cl h]
theorem shR_append {k : Nat} {a b : Rows} : shR k (a ++ b) = shR k a ++ shR k b := by
  induction a with
  | nil => rfl
  | cons x l ih => obtain ⟨i, r⟩ := x; simp only [List.cons_append, shR, ih]
attribute [push_cast] outK_ret outK_pan vis frs low oneR flId tgt w_skip w_ret w_exit w_seq x_cond w_block x_reg x_drw seqX_nil seqX_none seqX_some gX_1 gX_2 gX_3 gX_4 kS kP kG dX_nil dX_st dX_none dX_some hX_1 hX_2 calC kD_0 kD_1 kH iss_mv iss_pick iss_nc iss_alloc iss_box iss_build iss_bslice iss_ld iss_fa iss_fd iss_ias iss_iaa iss_ixa iss_ixs iss_ext iss_bin iss_eqb iss_eqn iss_not iss_neg iss_cv iss_b2s iss_s2b iss_mkf iss_mki iss_len iss_lens iss_cap iss_max2 iss_min2 iss_slc iss_sls iss_mks iss_app iss_eqv iss_cal iss_cav iss_pan iss_tas iss_eqi brX_true brX_false opR opG opD thn_n thn_r thn_e thn_p blk_n blk_r blk_e blk_p argE Ai.put Ai.next Ai.push prow pcond pval sv lv ev Ai.get beq_iff_eq cond_true cond_false AV.strip AV.live binC binV intC intV gv gvA norow pickC pickV sel ncC partsC partsV splice elemsC elemsV rdc rdv Ai.look Ai.over Ai.drop faC faV fdC fdV partV iasC iasV iaaC iaaV ixaC ixaV extC extV boolC intIs strIs eqbV notV negV cvV maxV minV lenV lenC eqaC eqaV eqvC eqvV skC skE stC stR AV.cells AV.known allLv intOr List.length_cons List.length_nil List.take_succ_cons List.take_zero List.drop_succ_cons List.drop_zero List.append_nil List.nil_append List.contains_nil List.contains_cons List.cons_append List.getD_cons_zero List.getD_cons_succ List.headD_cons List.set_cons_zero List.set_cons_succ List.replicate_succ List.replicate_zero List.map_cons List.map_nil Int.toNat_natCast true_and and_true Nat.zero_add Nat.add_zero Nat.zero_mul Nat.mul_one Nat.one_mul Bool.not_true Bool.not_false Bool.and_true Bool.and_false Bool.true_and Bool.false_and Nat.lt_add_one Nat.le_refl List.take_nil List.drop_nil true_implies false_implies List.mem_cons List.not_mem_nil or_false forall_eq_or_imp forall_eq ibne or_true true_or false_or and_false false_and ne_eq not_true_eq_false not_false_eq_true beq_true beq_false Bool.true_beq Bool.false_beq ibeq decide_true decide_false rvsC rvC rvV tupV cl_any cl_bool cl_int cl_str cl_nilp cl_nils cl_nilf cl_nili cl_nilm cl_roe cl_agg cl_tup cl_ros cl_rop cl_opt bel_any bel_bool bel_int bel_str bel_nilp bel_nils bel_nilf bel_nili bel_nilm bel_roe bel_agg bel_tup bel_ros bel_rop bel_opt bel_sl bel_pt beq_self_eq_true cvAll cv_refl cv_agg cv_tup cv_rop all2_cons all2_nil cv_bool cv_int cv_str cv_nilsR cv_ifc cv_opt List.length_map List.forall_mem_map appC appV appR appT elsC elsV one_int one_bool one_str one_nils one_ros one_sl cl_ros List.length_append List.mem_append or_imp forall_and take_map_len isIfc cl_ifc cl_fn bel_ifc bel_fn dfrQ dfrG_eq shR AV.sh fl_any fl_bool fl_int fl_str fl_nilp fl_nils fl_nilf fl_nili fl_nilm fl_roe fl_sl fl_pt fl_agg fl_tup fl_ifc flRows Bool.cond_true Bool.cond_false bits2 strC strV nilC nilV byteOf isByte bound boundL sliceC ixsC ixsV nilsIs s2bV s2bR lensV capC capV slcSz slsC slsV mksC sliceV tasC tasV ifcIs niliV shL shLL_cl shR_append accV_sh accR_sh le0 one_roe envAll rowsAll rowCv rhoA_0 rhoA_1 rhoA_2 cv_any cv_bool cv_int cv_str cv_nilp cv_nils cv_nilf cv_nili cv_nilm cv_agg cv_tup cv_rop cv_sl cv_pt cv_fn cv_ifc cv_opt bel_any bel_bool forall_const implies_true eq_self imp_self
end Go.Proofs.Ytffiicopifmmfaa.Ai
