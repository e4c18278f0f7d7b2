/-
  CFGMEM: teams and configs as they lie in memory, and as plain data.
-/
import Derived.Test.YtcbghchciplfcaaOwned
namespace Go.Proofs.Ytcbghchciplfcaa
set_option linter.unusedVariables false
set_option linter.unusedSimpArgs false
set_option maxRecDepth 100000
open Go.RowKit

/-- A team, plain. -/
structure Team where
  hs : List Int
  ps : List Int
  ds : List Int
  lo : Int
  un : Int
  qu : Int
  qt : Int
  wi : Int
deriving DecidableEq
/-- A team as it lies in memory. -/
structure Tm where
  hA : Option Addr
  hn : Nat
  hc : Nat
  pA : Option Addr
  pn : Nat
  pc : Nat
  dA : Option Addr
  dn : Nat
  dc : Nat
  tm : Team
def Tm.cells (t : Tm) : List Value := [.slice t.hA t.hn t.hc, .slice t.pA t.pn t.pc, .slice t.dA t.dn t.dc, .int .i64 t.tm.lo, .int .i64 t.tm.un, .int .i64 t.tm.qu, .int .i64 t.tm.qt, .int .i64 t.tm.wi]
abbrev Tm.arr (t : Tm) : Array Value := #[.slice t.hA t.hn t.hc, .slice t.pA t.pn t.pc, .slice t.dA t.dn t.dc, .int .i64 t.tm.lo, .int .i64 t.tm.un, .int .i64 t.tm.qu, .int .i64 t.tm.qt, .int .i64 t.tm.wi]
abbrev Tm.val (t : Tm) : Value := .agg t.arr
structure Tm.In (w : World) (B : Nat) (t : Tm) : Prop where
  h : Reads w B 1 t.hA t.hn (iv t.tm.hs)
  p : Reads w B 1 t.pA t.pn (iv t.tm.ps)
  d : Reads w B 1 t.dA t.dn (iv t.tm.ds)
  h1 : t.hn ≤ t.hc ∧ t.hn ≤ 17592186044415
  p1 : t.pn ≤ t.pc ∧ t.pn ≤ 17592186044415
  d1 : t.dn ≤ t.dc ∧ t.dn ≤ 17592186044415
theorem Reads.len {w : World} {B n : Nat} {A : Option Addr} {l : List Int} (h : Reads w B 1 A n (iv l)) : l.length = n := by have := h.1; simpa [iv_length] using this
theorem Reads.blen {w : World} {B n : Nat} {A : Option Addr} {l : List UInt8} (h : Reads w B 1 A n (bv l)) : l.length = n := by have := h.1; simpa using this
section
variable {w w' : World} {B B' : Nat} {t : Tm}
theorem Tm.In.below (h : t.In w B) (hb : Below B w w') : t.In w' B := ⟨h.h.below hb, h.p.below hb, h.d.below hb, h.h1, h.p1, h.d1⟩
theorem Tm.In.more (h : t.In w B) (hB : B ≤ B') : t.In w B' := ⟨h.h.more hB, h.p.more hB, h.d.more hB, h.h1, h.p1, h.d1⟩
theorem Tm.In.go (h : t.In w w.heap.size) (hb : Below w.heap.size w w') : t.In w' w'.heap.size := (h.below hb).more hb.size
end
/-- a team in a variable of the call's own. -/
structure TBox (w X : World) (t : Tm) : Prop where
  kf : Blk X w.heap.size 24 t.arr
  bel : Below w.heap.size w X
theorem TBox.next {w X X' : World} {t : Tm} (h : TBox w X t) (hb : Below X.heap.size X X') : TBox w X' t := ⟨h.kf.below hb h.kf.lt, h.bel.trans (hb.mono h.bel.size)⟩
theorem tbox (w : World) (t : Tm) : TBox w (w.alloc (.cells #[.slice t.hA t.hn t.hc, .slice t.pA t.pn t.pc, .slice t.dA t.dn t.dc, .int .i64 t.tm.lo, .int .i64 t.tm.un, .int .i64 t.tm.qu, .int .i64 t.tm.qt, .int .i64 t.tm.wi] 24)) t := ⟨Blk.new w 24 t.arr, (Below.refl _ _).alloc (Nat.le_refl _) _⟩

/-- A config, plain. -/
structure Cfg where
  a : Int
  b : Int
  cl : List UInt8
  sl : List UInt8
  ts : List Team
  st : Nat
deriving DecidableEq
/-- A config as it lies in memory. -/
structure Cm where
  a : Int
  b : Int
  fA : Option Addr
  fn : Nat
  fc : Nat
  cl : List UInt8
  sA : Option Addr
  sn : Nat
  sc : Nat
  sl : List UInt8
  tA : Option Addr
  tn : Nat
  tc : Nat
  ts : List Tm
  st : Nat
def Cm.cf (c : Cm) : Cfg := ⟨c.a, c.b, c.cl, c.sl, c.ts.map (·.tm), c.st⟩
abbrev Cm.arr (c : Cm) : Array Value := #[.int .i64 c.a, .int .i64 c.b, .slice c.fA c.fn c.fc, .slice c.sA c.sn c.sc, .slice c.tA c.tn c.tc, .int .u64 (c.st : Int)]
abbrev Cm.val (c : Cm) : Value := .agg c.arr
structure Cm.In (w : World) (B : Nat) (c : Cm) : Prop where
  f : Reads w B 1 c.fA c.fn (bv c.cl)
  s : Reads w B 1 c.sA c.sn (bv c.sl)
  t : Reads w B 8 c.tA c.tn (c.ts.flatMap Tm.cells)
  ts : ∀ t ∈ c.ts, t.In w B
  f1 : c.fn ≤ c.fc ∧ c.fn ≤ 140737488351232
  s1 : c.sn ≤ c.sc ∧ c.sn ≤ 140737488351232
  t1 : c.tn ≤ c.tc ∧ c.tn ≤ 1256584717422
  st : c.st < 18446744073709551616
section
variable {w w' : World} {B B' : Nat} {c : Cm}
theorem Cm.In.below (h : c.In w B) (hb : Below B w w') : c.In w' B := ⟨h.f.below hb, h.s.below hb, h.t.below hb, fun t ht => (h.ts t ht).below hb, h.f1, h.s1, h.t1, h.st⟩
theorem Cm.In.more (h : c.In w B) (hB : B ≤ B') : c.In w B' := ⟨h.f.more hB, h.s.more hB, h.t.more hB, fun t ht => (h.ts t ht).more hB, h.f1, h.s1, h.t1, h.st⟩
theorem Cm.In.go (h : c.In w w.heap.size) (hb : Below w.heap.size w w') : c.In w' w'.heap.size := (h.below hb).more hb.size
theorem flat_cells_length (ts : List Tm) : (ts.flatMap Tm.cells).length = ts.length * 8 := by
  induction ts with
  | nil => rfl
  | cons t ts ih => rw [List.flatMap_cons, List.length_append, ih]; simp [Tm.cells]; omega
theorem Cm.In.len (h : c.In w B) : c.ts.length = c.tn := by have := h.t.1; rw [flat_cells_length] at this; omega
theorem flat_cells_at (ts : List Tm) : ∀ (k : Nat) (t : Tm), ts[k]? = some t → ∀ j u, t.cells[j]? = some u → (ts.flatMap Tm.cells)[k * 8 + j]? = some u := by
  induction ts with
  | nil => intro k t h; simp at h
  | cons x ts ih =>
    intro k t h j u hu
    have hj : j < 8 := by
      rcases Nat.lt_or_ge j 8 with h | h
      · exact h
      · rw [List.getElem?_eq_none (by simpa [Tm.cells] using h)] at hu; cases hu
    rw [List.flatMap_cons]
    cases k with
    | zero =>
      simp at h
      subst h
      rw [List.getElem?_append_left (by simp [Tm.cells]; omega)]
      simpa using hu
    | succ k =>
      simp at h
      rw [List.getElem?_append_right (by simp [Tm.cells]; omega)]
      have := ih k t h j u hu
      rw [← this]
      congr 1
      simp [Tm.cells]; omega
/-- The cells of the k-th team. -/
theorem Cm.In.at_ (h : c.In w B) {k : Nat} (hk : k < c.tn) : ∃ ad t, c.tA = some ad ∧ ad.block < B ∧ c.ts[k]? = some t ∧ t.In w B ∧ ∀ j u, t.cells[j]? = some u → w.cell? (ad.add (k * 8 + j)) = some u := by
  obtain ⟨ad, e, hb, hc⟩ := h.t.2 (by omega)
  have hl : k < c.ts.length := by have := h.len; omega
  refine ⟨ad, c.ts[k], e, hb, List.getElem?_eq_getElem hl, h.ts _ (List.getElem_mem hl), fun j u hu => ?_⟩
  exact hc _ u (flat_cells_at _ k _ (List.getElem?_eq_getElem hl) j u hu)
end
/-- a config in a variable of the call's own. -/
structure CBox (w X : World) (c : Cm) : Prop where
  kf : Blk X w.heap.size 36 c.arr
  bel : Below w.heap.size w X
theorem CBox.next {w X X' : World} {c : Cm} (h : CBox w X c) (hb : Below X.heap.size X X') : CBox w X' c := ⟨h.kf.below hb h.kf.lt, h.bel.trans (hb.mono h.bel.size)⟩
theorem cbox (w : World) (c : Cm) : CBox w (w.alloc (.cells #[.int .i64 c.a, .int .i64 c.b, .slice c.fA c.fn c.fc, .slice c.sA c.sn c.sc, .slice c.tA c.tn c.tc, .int .u64 (c.st : Int)] 36)) c := ⟨Blk.new w 36 c.arr, (Below.refl _ _).alloc (Nat.le_refl _) _⟩

/-! ### what is the call's own -/
structure Tm.Own (w : World) (B : Nat) (t : Tm) : Prop where
  h : w.ownsRow B 3 1 (.slice t.hA t.hn t.hc) t.hn (iv t.tm.hs)
  p : w.ownsRow B 3 1 (.slice t.pA t.pn t.pc) t.pn (iv t.tm.ps)
  d : w.ownsRow B 3 1 (.slice t.dA t.dn t.dc) t.dn (iv t.tm.ds)
  h1 : t.hn ≤ 17592186044415
  p1 : t.pn ≤ 17592186044415
  d1 : t.dn ≤ 17592186044415
theorem own_le {w : World} {B n c : Nat} {A : Option Addr} {e : TypeId} {size : Nat} {xs : List Value} (h : w.ownsRow B e size (.slice A n c) n xs) : n ≤ c := by
  obtain ⟨A', c', e, h1, _⟩ := own_form h
  injection e with _ _ e
  omega
theorem Tm.Own.In {w : World} {B : Nat} {t : Tm} (h : t.Own w B) : t.In w w.heap.size :=
  ⟨Reads.of_own h.h, Reads.of_own h.p, Reads.of_own h.d, ⟨own_le h.h, h.h1⟩, ⟨own_le h.p, h.p1⟩, ⟨own_le h.d, h.d1⟩⟩
theorem own_lt {w : World} {B n : Nat} {v : Value} {e : TypeId} {size : Nat} {xs : List Value} (h : w.ownsRow B e size v n xs) : ∀ g, v.ownBlock = some g → g < w.heap.size := by
  rcases h.2 with ⟨rfl, _⟩ | ⟨g, cap, cur, rfl, _, hh, _⟩
  · intro g hg; cases hg
  · intro g' hg
    injection hg with hg
    subst hg
    exact (Array.getElem?_eq_some_iff.1 hh).1
theorem own_go {w w' : World} {B n : Nat} {v : Value} {e : TypeId} {size : Nat} {xs : List Value} (h : w.ownsRow B e size v n xs) (hb : Below w.heap.size w w') : w'.ownsRow B e size v n xs :=
  own_below h hb (own_lt h)
theorem Tm.Own.go {w w' : World} {B : Nat} {t : Tm} (h : t.Own w B) (hb : Below w.heap.size w w') : t.Own w' B := ⟨own_go h.h hb, own_go h.p hb, own_go h.d hb, h.h1, h.p1, h.d1⟩
theorem Tm.Own.more {w : World} {B B' : Nat} {t : Tm} (h : t.Own w B) (hB : B' ≤ B) : t.Own w B' := ⟨own_more h.h hB, own_more h.p hB, own_more h.d hB, h.h1, h.p1, h.d1⟩
/-- a row of the call's own is not met by a store elsewhere. -/
theorem own_off {w : World} {base : Nat} {e : TypeId} {size : Nat} {v : Value} {n : Nat} {xs : List Value} (h : w.ownsRow base e size v n xs) {p : Addr} (hp : v.ownBlock ≠ some p.block) (u : Value) : (w.setCell p u).ownsRow base e size v n xs := by
  obtain ⟨h1, h2⟩ := h
  refine ⟨h1, ?_⟩
  rcases h2 with h2 | ⟨g, cap, cur, rfl, b, c, d⟩
  · exact .inl h2
  · exact .inr ⟨g, cap, cur, rfl, b, (Below.heap_setCell w p u g (by intro h; subst h; exact hp rfl)).trans c, d⟩
/-- nor by what grows elsewhere. -/
theorem own_grown {w w' : World} {base : Nat} {e : TypeId} {size : Nat} {v : Value} {n : Nat} {xs : List Value} (h : w.ownsRow base e size v n xs) {row : Option Nat} (hg : w.grownBy w' row) (hp : ∀ g, v.ownBlock = some g → row ≠ some g) : w'.ownsRow base e size v n xs := by
  have hlt := own_lt h
  obtain ⟨h1, h2⟩ := h
  refine ⟨h1, ?_⟩
  rcases h2 with h2 | ⟨g, cap, cur, rfl, b, c, d⟩
  · exact .inl h2
  · exact .inr ⟨g, cap, cur, rfl, b, (hg.block g (hlt g rfl) (fun h => hp g rfl h.symm)).trans c, d⟩
structure Cm.Own (w : World) (B : Nat) (c : Cm) : Prop where
  f : w.ownsRow B 5 1 (.slice c.fA c.fn c.fc) c.fn (bv c.cl)
  s : w.ownsRow B 5 1 (.slice c.sA c.sn c.sc) c.sn (bv c.sl)
  t : w.ownsRow B 24 8 (.slice c.tA c.tn c.tc) c.tn (c.ts.flatMap Tm.cells)
  ts : ∀ t ∈ c.ts, t.Own w B
  f1 : c.fn ≤ 140737488351232
  s1 : c.sn ≤ 140737488351232
  t1 : c.tn ≤ 1256584717422
  st : c.st < 18446744073709551616
  sep : ∀ g, Value.ownBlock (.slice c.fA c.fn c.fc) = some g → Value.ownBlock (.slice c.sA c.sn c.sc) ≠ some g
theorem Reads.of_own8 {w : World} {base : Nat} {e : TypeId} {n c : Nat} {A : Option Addr} {size : Nat} {xs : List Value} (h : w.ownsRow base e size (.slice A n c) n xs) : Reads w w.heap.size size A n xs := Reads.of_own h
theorem Cm.Own.In {w : World} {B : Nat} {c : Cm} (h : c.Own w B) : c.In w w.heap.size :=
  ⟨Reads.of_own h.f, Reads.of_own h.s, Reads.of_own h.t, fun t ht => (h.ts t ht).In, ⟨own_le h.f, h.f1⟩, ⟨own_le h.s, h.s1⟩, ⟨own_le h.t, h.t1⟩, h.st⟩
theorem Cm.Own.go {w w' : World} {B : Nat} {c : Cm} (h : c.Own w B) (hb : Below w.heap.size w w') : c.Own w' B :=
  ⟨own_go h.f hb, own_go h.s hb, own_go h.t hb, fun t ht => (h.ts t ht).go hb, h.f1, h.s1, h.t1, h.st, h.sep⟩

/-! ### what the calls answer -/
def Team.absB (t : Team) : Bool := t.hs.isEmpty && t.ps.isEmpty && t.ds.isEmpty && t.lo == 0 && t.un == 0 && t.qu == 0 && t.qt == 0 && t.wi == 0
def Team.spots (t : Team) : List Int := t.hs ++ t.ps ++ t.ds
def btw (m n : Int) : Bool := decide (1 ≤ n ∧ n ≤ m)
def Team.numB (t : Team) : Bool := btw 3 t.hs.length && btw 3 t.ps.length && btw 3 t.ds.length && btw 8 t.lo && btw 8 t.un && btw 8 t.qu && btw 16 t.qt && btw 64 t.wi
/-- all spots are different cells of the tenant. -/
def spotsB (cl : List UInt8) (t : Int) (l : List Int) : Bool := l.all (fun p => decide (0 ≤ p ∧ p < cl.length) && ownerS (cl.getD p.toNat 0) == t) && decide l.Nodup
def Team.validB (m : Team) (cl : List UInt8) (t : Int) : Bool := m.numB && spotsB cl t m.spots
def checkTeamS (a b : Int) (cl : List UInt8) (t : Int) (m : Team) : Int :=
  if floorB a b cl then (if 0 ≤ t ∧ t < 3 then (if m.absB || m.validB cl t then 0 else 70) else 2) else 50
end Go.Proofs.Ytcbghchciplfcaa
