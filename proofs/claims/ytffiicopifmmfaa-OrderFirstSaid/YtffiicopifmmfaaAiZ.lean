/-
  The runs once more, every continuation a named function (so that none is entered before its turn). Plain facts, no condition.
-/
import Derived.Test.YtffiicopifmmfaaAiY
namespace Go.Proofs.Ytffiicopifmmfaa.Ai
set_option linter.unusedSimpArgs false
set_option linter.unusedVariables false
set_option linter.unnecessarySimpa false
set_option linter.unusedSectionVars false
set_option linter.unusedVariables false

def seqX (P : Program) (l : List RP) (Q : AX → Env → Store → Prop) (e : Env) (s : Store) : Prop := seqR P l (fun e s => Q .normal e s) (fun v e s => Q (.pan v) e s) e s
def kS (P : Program) (l : List RP) (Q : AX → Env → Store → Prop) (e : Env) (d : Option Nat) (v : AV) (s : Store) : Prop := seqX P l Q (put e d v) s
def kP (Q : AX → Env → Store → Prop) (e : Env) (v : AV) (s : Store) : Prop := Q (.pan v) e s
def kG (P : Program) (l : List RP) (Q : AX → Env → Store → Prop) (e : Env) (s : Store) (d : Option Nat) (t : Bool) (v : AV) : Prop := seqX P l Q (put e d (.opt t v)) (next s none)
def gX (P : Program) (l : List RP) (Q : AX → Env → Store → Prop) (e : Env) (s : Store) (d : Option Nat) (im : Bool) (op : ROp) : Bool → Option Bool → Prop
  | true, some t => opG P t op e s (kG P l Q e s d t)
  | false, some true => opR P im op e s (kS P l Q e d) (kP Q e)
  | false, some false => seqX P l Q (put e d (.opt false .any)) s
  | _, none => False

section
variable {P : Program} {n0 : Nat} {Q : AX → Env → Store → Prop} {e : Env} {s : Store} {l : List RP} {dst : Option Nat} {im : Bool} {op : ROp}
theorem seqX_nil : seqX P [] Q e s = Q .normal e s := rfl
theorem seqX_none : seqX P (⟨dst, none, im, op⟩ :: l) Q e s = opR P im op e s (kS P l Q e dst) (kP Q e) := rfl
theorem seqX_some {g : Nat} {b : Bool} : seqX P (⟨dst, some (g, b), im, op⟩ :: l) Q e s = gX P l Q e s dst im op (norow im op) (gv e g b) := by
  simp only [seqX, seqR]
  cases gv e g b with
  | none => cases norow im op <;> rfl
  | some t =>
    cases norow im op with
    | true => rfl
    | false =>
      cases t with
      | true => exact propext ⟨fun h => h.1 rfl, fun h => ⟨fun _ => h, nofun⟩⟩
      | false => exact propext ⟨fun h => h.2 rfl, fun h => ⟨nofun, fun _ => h⟩⟩

def dX (P : Program) (rows0 : Rows) (nx0 : Nat) (l : List (Bool × RP)) (k : Nat) (cur : Rows) (tg fr : List Nat) (tail : List RP) (Q : AX → Env → Store → Prop) (e : Env) : Prop :=
  dR P rows0 nx0 l k cur tg fr (fun e s => seqR P tail (fun e s => Q .normal e s) (fun v e s => Q (.pan v) e s) e s) e
def kD (P : Program) (rows0 : Rows) (nx0 : Nat) (l : List (Bool × RP)) (k : Nat) (cur : Rows) (tg fr : List Nat) (tail : List RP) (Q : AX → Env → Store → Prop) (e : Env) (fl : Bool) (op : ROp) (d : Option Nat) (m : Nat) (new : Rows) (v : AV) : Prop :=
  dX P rows0 nx0 l (k + m) (new ++ cur) tg (frs e fl op fr) tail Q (put e d v)
def kH (P : Program) (rows0 : Rows) (nx0 : Nat) (l : List (Bool × RP)) (k : Nat) (cur : Rows) (tg fr : List Nat) (tail : List RP) (Q : AX → Env → Store → Prop) (e : Env) (d : Option Nat) (t : Bool) (v : AV) : Prop :=
  dX P rows0 nx0 l (k + 1) cur tg fr tail Q (put e d (.opt t v))
def hX (P : Program) (rows0 : Rows) (nx0 : Nat) (l : List (Bool × RP)) (k : Nat) (cur : Rows) (tg fr : List Nat) (tail : List RP) (Q : AX → Env → Store → Prop) (e : Env) (fl : Bool) (op : ROp) (d : Option Nat) : Bool → Option Bool → Prop
  | true, some t => opG P t op e ⟨k, vis rows0 nx0 cur tg e fl op⟩ (kH P rows0 nx0 l k cur tg (frs e fl op fr) tail Q e d t)
  | _, _ => False

variable {rows0 cur : Rows} {nx0 k : Nat} {ld : List (Bool × RP)} {tg fr : List Nat} {tail : List RP} {fl : Bool}
theorem dX_nil : dX P rows0 nx0 [] k cur tg fr tail Q e = seqX P tail Q e ⟨k, cur⟩ := rfl
theorem dX_st {sz : Nat} {a x : Opd} : dX P rows0 nx0 ((fl, ⟨dst, none, im, .st sz a x⟩) :: ld) k cur tg fr tail Q e =
    (lv e a ∧ lv e x ∧ stC cur sz (sv e a) (sv e x) ∧ tgt (sv e a) < k ∧ fr.contains (tgt (sv e a)) = false ∧ dX P rows0 nx0 ld (k + 1) (stR cur (sv e a) (sv e x)) (tgt (sv e a) :: tg) fr tail Q (put e dst .any)) := rfl
theorem dX_none (h : isSt op = false) : dX P rows0 nx0 ((fl, ⟨dst, none, im, op⟩) :: ld) k cur tg fr tail Q e = opD P im op e (vis rows0 nx0 cur tg e fl op) k (kD P rows0 nx0 ld k cur tg fr tail Q e fl op dst) := by
  cases op <;> first | rfl | cases h
theorem dX_some {g : Nat} {b : Bool} : dX P rows0 nx0 ((fl, ⟨dst, some (g, b), im, op⟩) :: ld) k cur tg fr tail Q e = hX P rows0 nx0 ld k cur tg fr tail Q e fl op dst (norow im op) (gv e g b) := by
  simp only [dX, dR]
  cases gv e g b with
  | none => cases norow im op <;> rfl
  | some t => cases norow im op <;> rfl

def brX (P : Program) (n0 : Nat) (a b : RQ) (Q : AX → Env → Store → Prop) (e : Env) (s : Store) : AV → Prop
  | .bool true => rwp P n0 a Q e s
  | .bool false => rwp P n0 b Q e s
  | _ => False
theorem kD_0 {new : Rows} {v : AV} : kD P rows0 nx0 ld k cur tg fr tail Q e fl op dst 0 new v = dX P rows0 nx0 ld (k + 0) (new ++ cur) tg (frs e fl op fr) tail Q (put e dst v) := rfl
theorem kD_1 {new : Rows} {v : AV} : kD P rows0 nx0 ld k cur tg fr tail Q e fl op dst 1 new v = dX P rows0 nx0 ld (k + 1) (new ++ cur) tg (frs e fl op fr) tail Q (put e dst v) := rfl
theorem brX_true {a b : RQ} : brX P n0 a b Q e s (.bool true) = rwp P n0 a Q e s := rfl
theorem brX_false {a b : RQ} : brX P n0 a b Q e s (.bool false) = rwp P n0 b Q e s := rfl
theorem x_reg {ops : List RP} : rwp P n0 (.reg ops) Q e s = seqX P ops Q e s := rfl
theorem x_drw {ops : List (Bool × RP)} : rwp P n0 (.drw ops tail) Q e s = dX P s.rows s.nx ops s.nx s.rows [] [] tail Q e := rfl
theorem x_cond {c : Opd} {a b : RQ} : rwp P n0 (.cond c a b) Q e s = (lv e c ∧ brX P n0 a b Q e s (sv e c)) := by
  simp only [rwp, condR]
  refine propext (and_congr_right fun _ => ?_)
  cases sv e c with
  | bool t => cases t with
    | true => exact ⟨fun h => h.1 rfl, fun h => ⟨fun _ => h, nofun⟩⟩
    | false => exact ⟨fun h => h.2 rfl, fun h => ⟨nofun, fun _ => h⟩⟩
  | _ => exact Iff.rfl
theorem gX_1 {d : Option Nat} : gX P l Q e s d im op true (some true) = opG P true op e s (kG P l Q e s d true) := rfl
theorem gX_2 {d : Option Nat} : gX P l Q e s d im op true (some false) = opG P false op e s (kG P l Q e s d false) := rfl
theorem gX_3 {d : Option Nat} : gX P l Q e s d im op false (some true) = opR P im op e s (kS P l Q e d) (kP Q e) := rfl
theorem gX_4 {d : Option Nat} : gX P l Q e s d im op false (some false) = seqX P l Q (put e d (.opt false .any)) s := rfl
theorem gX_split {d : Option Nat} {nr t : Bool} (h1 : t = true → gX P l Q e s d im op nr (some true)) (h2 : t = false → gX P l Q e s d im op nr (some false)) : gX P l Q e s d im op nr (some t) := by
  cases t with
  | true => exact h1 rfl
  | false => exact h2 rfl
theorem hX_1 {d : Option Nat} : hX P rows0 nx0 ld k cur tg fr tail Q e fl op d true (some true) = opG P true op e ⟨k, vis rows0 nx0 cur tg e fl op⟩ (kH P rows0 nx0 ld k cur tg (frs e fl op fr) tail Q e d true) := rfl
theorem hX_2 {d : Option Nat} : hX P rows0 nx0 ld k cur tg fr tail Q e fl op d true (some false) = opG P false op e ⟨k, vis rows0 nx0 cur tg e fl op⟩ (kH P rows0 nx0 ld k cur tg (frs e fl op fr) tail Q e d false) := rfl
theorem hX_split {d : Option Nat} {t : Bool} (h1 : t = true → hX P rows0 nx0 ld k cur tg fr tail Q e fl op d true (some true)) (h2 : t = false → hX P rows0 nx0 ld k cur tg fr tail Q e fl op d true (some false)) : hX P rows0 nx0 ld k cur tg fr tail Q e fl op d true (some t) := by
  cases t with
  | true => exact h1 rfl
  | false => exact h2 rfl
theorem brX_split {a b : RQ} {t : Bool} (h1 : t = true → rwp P n0 a Q e s) (h2 : t = false → rwp P n0 b Q e s) : brX P n0 a b Q e s (.bool t) := by
  cases t with
  | true => exact h1 rfl
  | false => exact h2 rfl
theorem iss_mv {a0} : isSt (.mv a0) = false := id rfl
theorem iss_pick {a0 a1 a2} : isSt (.pick a0 a1 a2) = false := id rfl
theorem iss_nc {a0} : isSt (.nc a0) = false := id rfl
theorem iss_alloc {a0} : isSt (.alloc a0) = false := id rfl
theorem iss_box {a0} : isSt (.box a0) = false := id rfl
theorem iss_build {a0 a1} : isSt (.build a0 a1) = false := id rfl
theorem iss_bslice {a0 a1 a2 a3} : isSt (.bslice a0 a1 a2 a3) = false := id rfl
theorem iss_ld {a0 a1 a2} : isSt (.ld a0 a1 a2) = false := id rfl
theorem iss_fa {a0 a1} : isSt (.fa a0 a1) = false := id rfl
theorem iss_fd {a0 a1 a2 a3} : isSt (.fd a0 a1 a2 a3) = false := id rfl
theorem iss_ias {a0 a1 a2} : isSt (.ias a0 a1 a2) = false := id rfl
theorem iss_iaa {a0 a1 a2 a3} : isSt (.iaa a0 a1 a2 a3) = false := id rfl
theorem iss_ixa {a0 a1 a2 a3 a4} : isSt (.ixa a0 a1 a2 a3 a4) = false := id rfl
theorem iss_ixs {a0 a1} : isSt (.ixs a0 a1) = false := id rfl
theorem iss_ext {a0 a1} : isSt (.ext a0 a1) = false := id rfl
theorem iss_bin {a0 a1 a2} : isSt (.bin a0 a1 a2) = false := id rfl
theorem iss_eqb {a0 a1 a2} : isSt (.eqb a0 a1 a2) = false := id rfl
theorem iss_eqn {a0 a1 a2} : isSt (.eqn a0 a1 a2) = false := id rfl
theorem iss_not {a0} : isSt (.not a0) = false := id rfl
theorem iss_neg {a0} : isSt (.neg a0) = false := id rfl
theorem iss_cv {a0 a1} : isSt (.cv a0 a1) = false := id rfl
theorem iss_b2s {a0} : isSt (.b2s a0) = false := id rfl
theorem iss_s2b {a0} : isSt (.s2b a0) = false := id rfl
theorem iss_mkf {a0 a1 a2} : isSt (.mkf a0 a1 a2) = false := id rfl
theorem iss_mki {a0 a1} : isSt (.mki a0 a1) = false := id rfl
theorem iss_len {a0} : isSt (.len a0) = false := id rfl
theorem iss_lens {a0} : isSt (.lens a0) = false := id rfl
theorem iss_cap {a0} : isSt (.cap a0) = false := id rfl
theorem iss_max2 {a0 a1} : isSt (.max2 a0 a1) = false := id rfl
theorem iss_min2 {a0 a1} : isSt (.min2 a0 a1) = false := id rfl
theorem iss_slc {a0 a1 a2 a3} : isSt (.slc a0 a1 a2 a3) = false := id rfl
theorem iss_sls {a0 a1 a2} : isSt (.sls a0 a1 a2) = false := id rfl
theorem iss_mks {a0 a1 a2 a3 a4} : isSt (.mks a0 a1 a2 a3 a4) = false := id rfl
theorem iss_app {a0 a1 a2 a3 a4} : isSt (.app a0 a1 a2 a3 a4) = false := id rfl
theorem iss_eqv {a0 a1 a2 a3} : isSt (.eqv a0 a1 a2 a3) = false := id rfl
theorem iss_cal {a0 a1} : isSt (.cal a0 a1) = false := id rfl
theorem iss_cav {a0 a1} : isSt (.cav a0 a1) = false := id rfl
theorem iss_pan {a0} : isSt (.pan a0) = false := id rfl
theorem iss_tas {a0 a1} : isSt (.tas a0 a1) = false := id rfl
theorem iss_eqi {a0 a1} : isSt (.eqi a0 a1) = false := id rfl
theorem thn_n {K : Env → Store → Prop} : thn K Q .normal e s = K e s := rfl
theorem thn_r {K : Env → Store → Prop} : thn K Q .ret e s = Q .ret e s := rfl
theorem thn_e {K : Env → Store → Prop} {i : Nat} : thn K Q (.exit i) e s = Q (.exit i) e s := rfl
theorem thn_p {K : Env → Store → Prop} {v : AV} : thn K Q (.pan v) e s = Q (.pan v) e s := rfl
theorem blk_n {i : Nat} : blk i Q .normal e s = Q .normal e s := rfl
theorem blk_r {i : Nat} : blk i Q .ret e s = Q .ret e s := rfl
theorem blk_e {i j : Nat} : blk i Q (.exit j) e s = (bif j == i then Q .normal e s else Q (.exit j) e s) := rfl
theorem blk_p {i : Nat} {v : AV} : blk i Q (.pan v) e s = Q (.pan v) e s := rfl
end
end Go.Proofs.Ytffiicopifmmfaa.Ai
