/-
  ABSORB: the contract of digest.absorb.
-/
import Derived.Test.YtpoppfmlphkakaaDoorComp
namespace Go.Proofs.YtpoppfmlphkakaaDoor
set_option linter.unusedVariables false
set_option linter.unusedSimpArgs false
set_option maxRecDepth 100000
open Go.RowKit

/-- The state behind the first k blocks of some bytes. -/
def absorbed (s : St) (l : List UInt8) : Nat → St
  | 0 => s
  | k + 1 => compress (absorbed s l k) ((l.drop (64 * k)).take 64)
/-- The one slice is cut from the other. -/
def From (A A' : Option Addr) : Prop := ∃ k, A' = A.map fun x => x.add k
theorem From.refl (A : Option Addr) : From A A := ⟨0, by cases A <;> simp [Addr.add]⟩
theorem From.cut {A A' : Option Addr} (h : From A A') (j : Nat) : From A (A'.map fun x => x.add j) := by
  obtain ⟨k, rfl⟩ := h
  exact ⟨k + j, by cases A <;> simp [add_of_add]⟩
theorem absorbed_ok {s : St} (h : s.ok) (l : List UInt8) (k : Nat) : (absorbed s l k).ok := by
  cases k with
  | zero => exact h
  | succ k => exact compress_ok _ _
@[irreducible] def zerosB : Array Value := (bv (List.replicate 64 0)).toArray
theorem zerosB_size : zerosB.size = 64 := by unfold zerosB; simp
theorem zerosB_list : zerosB.toList = bv (List.replicate 64 0) := by unfold zerosB; rfl
theorem allocB : ∀ w : World, (Instr.alloc 48 true (.tuple #[])).run Tryd.prog w = .ok (.pointer (some ⟨w.heap.size, 0, none⟩)) (w.alloc (.cells zerosB 48)) := fun _ => by unfold zerosB; kernel_rfl
theorem full_copy (l : List UInt8) {m : Nat} (hm : 64 ≤ m) : (List.take 64 (bv l) ++ zerosB.toList.drop (min m 64)).toArray = (bv (l.take 64)).toArray := by
  have h : (bv (List.replicate 64 0)).drop (min m 64) = [] := List.drop_of_length_le (by rw [bv_length, List.length_replicate]; omega)
  rw [zerosB_list, h, bv_take, List.append_nil]
theorem size5 : (Tryd.prog.info? 5).map (·.size) = some 1 := by kernel_rfl

set_option maxHeartbeats 1600000 in
theorem absorb_any (s : St) (A : Option Addr) (n c : Nat) (l : List UInt8) (w : World) (hs : s.ok) (hr : Reads w w.heap.size 1 A n (bv l)) (hnc : n ≤ c) (hc : c ≤ maxLen) (hn : n ≤ 100000) (hrc : HasRc w) :
    Calls Tryd.prog 45 #[.agg s.vals, .slice A n c] w fun e w' =>
      ∃ A' c', e = .returned (.tuple #[.agg (absorbed s l (n / 64)).vals, .slice A' (n % 64) c']) ∧ Reads w' w.heap.size 1 A' (n % 64) (bv (l.drop (64 * (n / 64)))) ∧ n % 64 ≤ c' ∧ c' ≤ maxLen ∧ From A A' ∧ Below w.heap.size w w' := by
  have hlen : l.length = n := by have := hr.1; simpa using this
  have HR := Lib.hid hrc; clear hrc
  have HL := Lib.hid hlen; clear hlen
  have hz := alloc8
  have hzb := allocB
  have b0 : Blk ((w.alloc (.cells s.vals 40)).alloc (.cells zeros8 40)) w.heap.size 40 s.vals := (Blk.new w _ _).alloc _
  have b1 : Blk ((w.alloc (.cells s.vals 40)).alloc (.cells zeros8 40)) (w.heap.size + 1) 40 zeros8 := by
    have := Blk.new (w.alloc (.cells s.vals 40)) 40 zeros8
    simpa using this
  have hbel : Below w.heap.size w ((w.alloc (.cells s.vals 40)).alloc (.cells zeros8 40)) := ((Below.refl _ _).alloc (Nat.le_refl _) _).alloc (by simp) _
  have H0 := Lib.hid b0; have H1 := Lib.hid b1; have HB := Lib.hid hbel
  clear b0 b1 hbel
  go_enter Tryd.func45, Tryd.ntmps45
  go_wp2_with (with_reducible refine wpList_alloc_named rfl 40 rfl zeros8 hz ?_)
  generalize (w.alloc (.cells s.vals 40)).alloc (.cells zeros8 40) = W2 at H0 H1 HB ⊢
  go_loopw [1] (fun u wr => ∃ (k : Nat) (A' : Option Addr) (m c' : Nat), m + 64 * k = n ∧ u = .slice A' m c' ∧ m ≤ c' ∧ c' ≤ maxLen ∧ Hid (From A A') ∧ Hid (Reads wr w.heap.size 1 A' m (bv (l.drop (64 * k)))) ∧ Hid (Blk wr w.heap.size 40 (absorbed s l k).vals) ∧ Hid (Blk wr (w.heap.size + 1) 40 zeros8) ∧ Below w.heap.size w wr)
    (fun u _ => match u with | .slice _ m _ => m | _ => 0)
  case atStart => exact ⟨0, A, n, c, by omega, rfl, hnc, hc, From.refl A, by rw [Nat.mul_zero, List.drop_zero]; exact hr.below HB.out, H0.out, H1.out, HB.out⟩
  case round =>
    obtain ⟨k, A', m, c', hm, rfl, hmc, hcm, hfr, hrd, hb0, hb1, hnx⟩ := hrel
    clear H0 H1 HB
    by_cases hlt : 64 ≤ m
    · have hsz := hnx.size
      have hok := absorbed_ok hs l k
      have hA0 : (wr.alloc (.cells zerosB 48)).heap.size = wr.heap.size + 1 := by simp
      have hrd1 : Reads (wr.alloc (.cells zerosB 48)) w.heap.size 1 A' m (bv (l.drop (64 * k))) := hrd.out.alloc hsz _
      have hbn := Blk.new wr 48 zerosB
      have hw0 := hb0.out.alloc (.cells zerosB 48)
      have hw1 := hb1.out.alloc (.cells zerosB 48)
      have hnx1 := hnx.alloc hsz (.cells zerosB 48)
      have hlt0 := hb0.out.lt
      have hlt1 := hb1.out.lt
      have hlb : ((l.drop (64 * k)).take 64).length = 64 := by rw [List.length_take, List.length_drop, HL.out]; omega
      have he : (List.take 64 (bv (l.drop (64 * k))) ++ zerosB.toList.drop (min m 64)).toArray = (bv ((l.drop (64 * k)).take 64)).toArray := full_copy _ hlt
      have K1 := Lib.hid hrd1; have K2 := Lib.hid hbn; have K3 := Lib.hid hw0; have K4 := Lib.hid hw1; have K5 := Lib.hid hnx1; have K6 := Lib.hid hlb; have K7 := Lib.hid he; have K8 := Lib.hid hA0; have K9 := Lib.hid hok
      clear hrd1 hbn hw0 hw1 hnx1 hlb he hA0 hok
      have N1 : ∀ w4 : World, (wr.alloc (.cells zerosB 48)).grownBy w4 (some wr.heap.size) → Hid (Blk w4 w.heap.size 40 (absorbed s l k).vals) := fun _ hg => K3.out.grown hg (fun e => by injection e with e; omega)
      have N2 : ∀ w4 : World, Blk w4 wr.heap.size 48 (List.take 64 (bv (l.drop (64 * k))) ++ zerosB.toList.drop (min m 64)).toArray → Hid (Blk w4 wr.heap.size 48 (bv ((l.drop (64 * k)).take 64)).toArray) := fun _ h => by rw [K7.out] at h; exact h
      have hs8 : (Tryd.prog.info? 40).map (·.size) = some (absorbed s l k).vals.size := by rw [size8, vals_size]
      have hs64 : (Tryd.prog.info? 48).map (·.size) = some (bv ((l.drop (64 * k)).take 64)).toArray.size := by rw [size48]; simp only [List.size_toArray, bv_length]; rw [K6.out]
      have S8 := Lib.hid hs8; have S64 := Lib.hid hs64; have O1 := Lib.hid N1; have O2 := Lib.hid N2
      clear hs8 hs64 N1 N2
      go_wp2_with (first | (with_reducible refine wpList_alloc_named rfl 48 rfl zerosB hzb ?_) | (refine wpList_copy_arr rfl (.tmp 10) (.tmp 11) 22 22 rfl 5 Tryd.underlying22 size5 wr.heap.size 64 64 A' m c' (by simp [Act.eval, Act.put]) (by simp [Act.eval, Act.put]) 48 zerosB K2.out zerosB_size w.heap.size (bv (l.drop (64 * k))) K1.out (bv_oneCell _) ?_; intro w4 hb4 hg4; have M0 := O1.out _ hg4; have M6 := O2.out _ hb4) | (refine wpList_load_row rfl 40 (.tmp 2) rfl w.heap.size rfl 40 _ (0, 0) _ M0.out Tryd.underlying40 rfl S8.out ?_) | (refine wpList_load_row rfl 48 (.tmp 6) rfl wr.heap.size rfl 48 _ (0, 0) _ M6.out Tryd.underlying48 rfl S64.out ?_))
      have hr4 : Reads w4 w.heap.size 1 A' m (bv (l.drop (64 * k))) := K1.out.grown hg4 (by rw [K8.out]; omega) (fun g h => by injection h with h; omega)
      have hnx4 : Below w.heap.size w w4 := K5.out.grown hg4 (by rw [K8.out]; omega) (fun g h => by injection h with h; omega)
      have hw41 : Blk w4 (w.heap.size + 1) 40 zeros8 := K4.out.grown hg4 (fun e => by injection e with e; omega)
      have hsz4 := hg4.size
      rw [K8.out] at hsz4
      refine (compress_any (absorbed s l k) ((l.drop (64 * k)).take 64) w4 K9.out K6.out (HR.out.below hnx4 HR.out.1)).mono ?_
      rintro e w5 ⟨rfl, hb5⟩
      have hc5 : compress (absorbed s l k) ((l.drop (64 * k)).take 64) = absorbed s l (k + 1) := rfl
      rw [hc5]
      have hm0 : Blk w5 w.heap.size 40 (absorbed s l k).vals := M0.out.below hb5 M0.out.lt
      have hm1 : Blk w5 (w.heap.size + 1) 40 zeros8 := hw41.below hb5 hw41.lt
      have hr5 : Reads w5 w.heap.size 1 A' m (bv (l.drop (64 * k))) := hr4.below (hb5.mono (by omega))
      have hnx5 : Below w.heap.size w w5 := hnx4.trans (hb5.mono (by omega))
      have hi5 : (Tryd.prog.info? 40).map (·.size) = some (absorbed s l (k + 1)).vals.size := by rw [size8, vals_size]
      have hj5 : (absorbed s l k).vals.size = (absorbed s l (k + 1)).vals.size := by rw [vals_size, vals_size]
      have ho5 := vals_one (absorbed s l (k + 1))
      have hm6 := hm0.row (absorbed s l (k + 1)).vals
      have hm7 := hm1.rowFar (g' := w.heap.size) (by omega) (absorbed s l (k + 1)).vals
      have hr6 : Reads (w5.setRow w.heap.size (absorbed s l (k + 1)).vals) w.heap.size 1 A' m (bv (l.drop (64 * k))) := hr5.keep fun p hp => cell_setRow_other _ _ _ _ (by omega)
      have hnx6 := below_setRow hnx5 (Nat.le_refl _) (absorbed s l (k + 1)).vals
      have P0 := Lib.hid hm0; have P1 := Lib.hid hi5; have P2 := Lib.hid hj5; have P3 := Lib.hid ho5
      have P6 := Lib.hid hm6; have P7 := Lib.hid hm7
      obtain ⟨A2, hA2⟩ : ∃ A2, A2 = if c' = 64 then A' else A'.map (fun x => x.add 64) := ⟨_, rfl⟩
      have hr7 := hr6.cut (k := 64) (cap := c') hlt hmc
      simp only [Nat.mul_one, bv_drop, List.drop_drop] at hr7
      rw [← hA2, show 64 * k + 64 = 64 * (k + 1) from by omega] at hr7
      have P8 := Lib.hid hr7
      clear hr4 hnx4 hw41 hc5 hm0 hm1 hr5 hnx5 hi5 hj5 ho5 hm6 hm7 hr6 hr7 hb4 hg4 hb5 M0 M6 K1 K2 K3 K4 K5 K6 K7 K8 K9 hrd hb0 hb1 O1 O2 S64 S8
      by_cases hck : c' = 64
      · rw [if_pos hck] at hA2
        subst hA2 hck
        go_wp2_with (refine wpList_store_row rfl 40 (.tmp 2) (.tmp 15) rfl w.heap.size _ (by simp [Act.eval, Act.put]) (by simp [Act.eval, Act.put]) 40 _ P0.out P1.out P2.out P3.out ?_)
        go_roundw
        case rel => exact ⟨k + 1, A2, 0, 0, by omega, rfl, Nat.le_refl _, by simp [maxLen], hfr, (show m - 64 = 0 by omega) ▸ P8.out, P6.out, P7.out, hnx6⟩
        case measure => simp; omega
      · rw [if_neg hck] at hA2
        subst hA2
        go_wp2_with (refine wpList_store_row rfl 40 (.tmp 2) (.tmp 15) rfl w.heap.size _ (by simp [Act.eval, Act.put]) (by simp [Act.eval, Act.put]) 40 _ P0.out P1.out P2.out P3.out ?_)
        go_roundw
        case rel => exact ⟨k + 1, _, m - 64, c' - 64, by omega, rfl, by omega, by omega, hfr.out.cut 64, P8.out, P6.out, P7.out, hnx6⟩
        case measure => simp; omega
    · have hk : k = n / 64 := by omega
      have hmm : m = n % 64 := by omega
      subst hmm
      have hs8 : (Tryd.prog.info? 40).map (·.size) = some (absorbed s l k).vals.size := by rw [size8, vals_size]
      have hz8 : zeros8.size = (absorbed s l k).vals.size := by rw [zeros8_size, vals_size]
      have h1 := vals_one (absorbed s l k)
      have R1 := Lib.hid hs8; have R2 := Lib.hid hz8; have R3 := Lib.hid h1; have HK := Lib.hid hk
      clear hs8 hz8 h1 hk hm
      go_wp2_with (first | (refine wpList_load_row rfl 40 (.tmp 2) rfl w.heap.size rfl 40 _ (0, 0) _ hb0.out Tryd.underlying40 rfl R1.out ?_) | (refine wpList_store_row rfl 40 (.tmp 4) (.tmp 18) rfl (w.heap.size + 1) _ (by simp [Act.eval, Act.put]) (by simp [Act.eval, Act.put]) 40 zeros8 hb1.out R1.out R2.out R3.out ?_))
      refine bodyPost_ret (results_row_tmp rfl _ _ (w.heap.size + 1) 40 _ (0, 0) _ rfl (hb1.out.row _) Tryd.underlying40 rfl R1.out) rfl ?_
      rw [← HK.out]
      exact ⟨A', c', rfl, hrd.out.keep fun p hp => cell_setRow_other _ _ _ _ (by omega), hmc, hcm, hfr.out, below_setRow hnx (by omega) _⟩
end Go.Proofs.YtpoppfmlphkakaaDoor
