/-
  PARSE: the contract of floor's Parse.
-/
import Derived.Test.YtcbghchciplfcaaDraw
import Derived.WalkSmall
namespace Go.Proofs.Ytcbghchciplfcaa
set_option linter.unusedVariables false
set_option linter.unusedSimpArgs false
set_option maxRecDepth 100000
open Go.RowKit

def cellC (c : UInt8) : Option UInt8 := if c.toNat = 35 then some 0 else if c.toNat = 46 then some 255 else if 48 ≤ c.toNat ∧ c.toNat < 51 then some (c - 47) else none
theorem cellOf_no (r : Int) (w : World) (h1 : r ≠ 35) (h2 : r ≠ 46) (h3 : ¬ (48 ≤ r ∧ r < 51)) :
    Calls Try.prog 108 #[.int .i32 r] w fun e w' => e = .returned (.tuple #[.int .u8 0, .bool false]) ∧ w = w' := by
  have e1 : (r == 35) = false := by simpa using h1
  have e2 : (r == 46) = false := by simpa using h2
  by_cases h4 : 48 ≤ r
  · have e4 : decide (r < 51) = false := decide_eq_false (fun h => h3 ⟨h4, h⟩)
    clear h1 h2 h3
    go_enter Try.func108, Try.ntmps108
    go_wp2
    go_ret2
    exact ⟨rfl, rfl⟩
  · have e4 : decide (48 ≤ r) = false := decide_eq_false h4
    clear h1 h2 h3 h4
    go_enter Try.func108, Try.ntmps108
    go_wp2
    go_ret2
    exact ⟨rfl, rfl⟩
theorem cellOf_yes (c x : UInt8) (w : World) (h : cellC c = some x) :
    Calls Try.prog 108 #[.int .i32 (c.toNat : Int)] w fun e w' => e = .returned (.tuple #[.int .u8 (x.toNat : Int), .bool true]) ∧ w = w' := by
  unfold cellC at h
  by_cases h1 : c.toNat = 35
  · rw [if_pos h1] at h
    injection h with h
    subst h
    rw [h1]
    clear h1
    go_enter Try.func108, Try.ntmps108
    go_wp2
    go_ret2
    exact ⟨rfl, rfl⟩
  · rw [if_neg h1] at h
    by_cases h2 : c.toNat = 46
    · rw [if_pos h2] at h
      injection h with h
      subst h
      rw [h2]
      clear h2 h1
      go_enter Try.func108, Try.ntmps108
      go_wp2
      go_ret2
      exact ⟨rfl, rfl⟩
    · rw [if_neg h2] at h
      by_cases h3 : 48 ≤ c.toNat ∧ c.toNat < 51
      · rw [if_pos h3] at h
        injection h with h
        subst h
        have hx : ((c - 47).toNat : Int) = (c.toNat : Int) - 48 + 1 := by
          have := c.toNat_lt
          rw [UInt8.toNat_sub]
          simp
          omega
        rw [hx]
        have e1 : ((c.toNat : Int) == 35) = false := by simp; omega
        have e2 : ((c.toNat : Int) == 46) = false := by simp; omega
        have g1 : 48 ≤ (c.toNat : Int) := by omega
        have g2 : (c.toNat : Int) < 51 := by omega
        clear h1 h2 h3 hx
        generalize (c.toNat : Int) = r at *
        go_enter Try.func108, Try.ntmps108
        go_wp2
        go_ret2
        exact ⟨rfl, rfl⟩
      · rw [if_neg h3] at h
        cases h

/-- the text as it is read: the sides, the row's length so far, the cells. -/
structure PSt where
  W : Nat
  H : Nat
  len : Nat
  cells : List UInt8
def stepC (st : PSt) (c : UInt8) : Option PSt :=
  if c.toNat = 10 then (if 0 < st.H ∧ st.len ≠ st.W then none else some ⟨st.len, st.H + 1, 0, st.cells⟩)
  else match cellC c with
    | some x => some ⟨st.W, st.H, st.len + 1, st.cells ++ [x]⟩
    | none => none
def readC : List UInt8 → PSt → Option PSt
  | [], st => some st
  | c :: l, st => match stepC st c with
    | some st' => readC l st'
    | none => none
def p0 : PSt := ⟨0, 0, 0, []⟩
/-- What Parse comes to: the sides, the cells, the error. -/
def parseF (l : List UInt8) : Nat × Nat × List UInt8 × Int :=
  match readC l p0 with
  | none => (0, 0, [], 11)
  | some st => if 0 < st.len then (0, 0, [], 11) else if floorB st.W st.H st.cells then (st.W, st.H, st.cells, 0) else (0, 0, [], 50)
theorem readC_drop {l : List UInt8} {k : Nat} {c : UInt8} (st : PSt) (h : l[k]? = some c) : readC (l.drop k) st = match stepC st c with | some st' => readC (l.drop (k + 1)) st' | none => none := by
  have hk : k < l.length := (List.getElem?_eq_some_iff.1 h).1
  rw [List.drop_eq_getElem_cons hk]
  have : l[k] = c := (List.getElem?_eq_some_iff.1 h).2
  rw [this]
  rfl

structure PInv (w wr : World) (W H : Nat) (u : Value) (cells : List UInt8) (s : ByteArray) (k : Nat) : Prop where
  z : Blk wr w.heap.size 30 (b3 0 0 (.slice none 0 0))
  f : Blk wr (w.heap.size + 1) 30 (b3 W H u)
  it : wr.heap[w.heap.size + 1 + 1]? = some (.stringIter s k)
  own : wr.ownsRow (w.heap.size + 1 + 1 + 1) 5 1 u cells.length (bv cells)
  bel : Below w.heap.size w wr
theorem PInv.lt {w wr : World} {W H : Nat} {u : Value} {cells : List UInt8} {s : ByteArray} {k : Nat} (h : PInv w wr W H u cells s k) : w.heap.size + 1 + 1 + 1 ≤ wr.heap.size := by
  have := (Array.getElem?_eq_some_iff.1 h.it).1
  omega
theorem PInv.move {w wr : World} {W H : Nat} {u : Value} {cells : List UInt8} {s : ByteArray} {k : Nat} (h : PInv w wr W H u cells s k) (k' : Nat) : PInv w (wr.iterAt (w.heap.size + 1 + 1) s k') W H u cells s k' :=
  ⟨(Lib.iterAt_other _ _ _ _ _ (by omega)).trans h.z, (Lib.iterAt_other _ _ _ _ _ (by omega)).trans h.f, Lib.iterAt_heap _ _ _ _ _ h.it, ownsRow_iterAt h.own (by omega) s k', Lib.below_iterAt h.bel (by omega) s k'⟩
theorem pinv_start (w : World) (s : ByteArray) : PInv w (((w.alloc (.cells #[.int .i64 0, .int .i64 0, .slice none 0 0] 30)).alloc (.cells #[.int .i64 0, .int .i64 0, .slice none 0 0] 30)).iter s 0) 0 0 (.slice none 0 0) [] s 0 := by
  have h1 := ((Blk.new w 30 (b3 0 0 (.slice none 0 0))).alloc (.cells #[.int .i64 0, .int .i64 0, .slice none 0 0] 30)).alloc (.stringIter s 0)
  have h2 := (Blk.new (w.alloc (.cells #[.int .i64 0, .int .i64 0, .slice none 0 0] 30)) 30 (b3 0 0 (.slice none 0 0))).alloc (.stringIter s 0)
  have h3 := World.iter_heap ((w.alloc (.cells #[.int .i64 0, .int .i64 0, .slice none 0 0] 30)).alloc (.cells #[.int .i64 0, .int .i64 0, .slice none 0 0] 30)) s 0
  refine ⟨?_, ?_, ?_, World.ownsRow_nil _ _ _ _, ?_⟩
  · simpa [b3, World.iter] using h1
  · simpa [b3, World.iter] using h2
  · simpa using h3
  · exact (((Below.refl _ _).alloc (Nat.le_refl _) _).alloc (by simp) _).alloc (by simp; omega) _
theorem iterAt_pos {w wr : World} {W H : Nat} {u : Value} {cells : List UInt8} {s : ByteArray} {k : Nat} (h : PInv w wr W H u cells s k) : wr.iterPos (w.heap.size + 1 + 1) = k := iterPos_of h.it
theorem f3_info (a b : Int) (v : Value) : (Try.prog.info? 30).map (·.size) = some (b3 a b v).size := by
  show _ = some 3
  kernel_rfl
theorem f3_three {w : World} {g : Nat} {a b c d : Int} {v u : Value} (h : Blk w g 30 (b3 a b v)) : Blk (((w.setCell ⟨g, 0, none⟩ (.int .i64 c)).setCell ⟨g, 1, none⟩ (.int .i64 d)).setCell ⟨g, 2, none⟩ u) g 30 (b3 c d u) :=
  ((h.set_ 0 _).set_ 1 _).set_ 2 _
end Go.Proofs.Ytcbghchciplfcaa
