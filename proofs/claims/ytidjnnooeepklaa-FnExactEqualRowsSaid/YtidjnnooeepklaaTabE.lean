/- The program's EqualRows. -/
import Derived.Test.YtidjnnooeepklaaTabH
import Derived.Test.YtidjnnooeepklaaTabY
namespace Go.Proofs.Ytidjnnooeepklaa
open Go Go.RowKit

theorem bitN_inj {m : Nat} {xs ys : List Int} (hx : rowB m xs = true) (hy : rowB m ys = true) (h : bitN xs = bitN ys) : xs = ys := by
  refine List.ext_getElem (by rw [(rowB_true hx).1, (rowB_true hy).1]) (fun k h1 h2 => ?_)
  have hb := congrArg (fun z => Nat.testBit z k) h
  simp only [bitN_bit] at hb
  have e1 : xs.getD k 0 = xs[k] := by rw [List.getD_eq_getElem?_getD, List.getElem?_eq_getElem h1]; rfl
  have e2 : ys.getD k 0 = ys[k] := by rw [List.getD_eq_getElem?_getD, List.getElem?_eq_getElem h2]; rfl
  rw [← e1, ← e2]
  have q1 := row_bit hx k
  have q2 := row_bit hy k
  by_cases p1 : xs.getD k 0 = 1
  · by_cases p2 : ys.getD k 0 = 1
    · rw [p1, p2]
    · rw [decide_eq_true p1, decide_eq_false p2] at hb; cases hb
  · by_cases p2 : ys.getD k 0 = 1
    · rw [decide_eq_false p1, decide_eq_true p2] at hb; cases hb
    · omega

theorem index_any (g n m : Nat) (F : Nat → Nat) (v k : Nat) (w : World) (h : TBox w g n m F) (hk : k < 10) (h1 : ∀ j, j < k → F j ≠ v) (h2 : F k = v) :
    Calls Try.prog 85 #[.slice (some ⟨g, 2, none⟩) 10 10, .int .u16 (v : Int)] w fun e w' => e = .returned (.int .i64 (k : Int)) ∧ w = w' := by
  have H1 := Lib.hid h1
  have H2 := Lib.hid h2
  clear h1 h2
  go_enter Try.func85, Try.ntmps85
  go_wp2
  go_loop [8] (fun i => ∃ j : Nat, j ≤ k ∧ i = .int .i64 j) (fun i => k - (intOf i).toNat)
  case atStart => exact ⟨0, Nat.zero_le _, rfl⟩
  case round =>
    obtain ⟨j, hj, rfl⟩ := hrel
    have hc := h.cell (i := j) (by omega)
    have i0 : (0 : Int) ≤ (j : Int) := by omega
    have i1 : (j : Int) < 10 := by omega
    by_cases e : j = k
    · subst e
      rw [H2.out] at hc
      go_wp2
      go_ret
      exact ⟨rfl, rfl⟩
    · have hne := H1.out j (by omega)
      have t1 : ((v : Int) == ((F j : Nat) : Int)) = false := by simp; omega
      generalize F j = u at *
      clear hne
      go_wp2
      go_round
      case rel => exact ⟨j + 1, by omega, by go_num⟩
      case measure => simp [intOf]; omega

/-- the cells of the answer, k of them written -/
def eqAt (T : List (List Int)) (k i : Nat) : Value := .int .i64 (if i < k then (fstR T i : Int) else 0)
theorem eqAt_step (T : List (List Int)) (k i : Nat) : (if i = k then Value.int .i64 (fstR T k : Int) else eqAt T k i) = eqAt T (k + 1) i := by
  unfold eqAt
  by_cases e : i = k
  · subst e; rw [if_pos rfl, if_pos (by omega)]
  · rw [if_neg e]
    by_cases h : i < k
    · rw [if_pos h, if_pos (by omega)]
    · rw [if_neg h, if_neg (by omega)]
theorem fst_bits {T : List (List Int)} {n i : Nat} (hT : tabB T = true) (hl : T.length = n) (hi : i < n) : fstR T i ≤ i ∧ (∀ j, j < fstR T i → bitsT T j ≠ bitsT T i) ∧ bitsT T (fstR T i) = bitsT T i := by
  have hex : ∃ k, k ≤ i ∧ (∀ j, j < k → getR T j ≠ getR T i) ∧ getR T k = getR T i := by
    have : ∀ d, d ≤ i + 1 → (∀ j, j < d → getR T j ≠ getR T i) ∨ ∃ k, k ≤ i ∧ (∀ j, j < k → getR T j ≠ getR T i) ∧ getR T k = getR T i := by
      intro d
      induction d with
      | zero => intro _; exact .inl (fun j hj => absurd hj (by omega))
      | succ d ih =>
        intro hd
        rcases ih (by omega) with h | h
        · by_cases e : getR T d = getR T i
          · exact .inr ⟨d, by omega, h, e⟩
          · refine .inl (fun j hj => ?_)
            by_cases ej : j = d
            · subst ej; exact e
            · exact h j (by omega)
        · exact .inr h
    rcases this (i + 1) (Nat.le_refl _) with h | h
    · exact absurd rfl (h i (by omega))
    · exact h
  obtain ⟨k, hk, h1, h2⟩ := hex
  rw [fstR_is hl hi hk h1 h2]
  refine ⟨hk, fun j hj e => h1 j hj ?_, by unfold bitsT; rw [h2]⟩
  exact bitN_inj (tab_row hT rfl hl (show j < n by omega)) (tab_row hT rfl hl hi) e

set_option maxRecDepth 100000 in
set_option maxHeartbeats 4000000 in
theorem equalRows_any (V : Option Addr) (n c : Nat) (T : List (List Int)) (w : World) (h : Sets w w.heap.size V n T) (hn : n + sizeL T ≤ 1048576) :
    Calls Try.prog 24 #[.slice V n c] w (GivesList w (tE T) (eqT T)) := by
  have HL := Lib.hid h.len
  have HN := Lib.hid hn
  have H := Lib.hid h
  clear h hn
  obtain ⟨z, hz⟩ : ∃ z, tksE T [] = z := ⟨_, rfl⟩
  have HZ := Lib.hid hz
  have HE : Hid (tE T = z) := Lib.hid (by rw [← tks_none]; exact hz)
  rw [HE.out]
  by_cases hz0 : z = 0
  rotate_left
  · have HV : Hid (eqT T = []) := Lib.hid (by unfold eqT; rw [HE.out, if_neg hz0])
    have ht : (z != 0) = true := by simpa using hz0
    rw [HV.out]
    clear hz hz0
    go_enter Try.func24, Try.ntmps24
    go_wp2_with fail
    refine (tableOf_any V n c T none 0 0 [] _ H.out HN.out ⟨rfl, fun h => absurd h (by omega)⟩ (by omega)).mono ?_
    rw [HZ.out]
    rintro e w1 ⟨⟨a, b, F, rfl, _⟩, b1⟩
    have C1 := Lib.hid (b1.alloc b1.size (.cells (tabA a b F) 83))
    clear b1
    go_wp2
    go_ret2
    exact ⟨none, 0, 0, rfl, Own.nil _ (Nat.le_refl _), by omega, by omega, by omega, C1.out⟩
  subst hz0
  have hb := tks_zero hz
  have hn10 : n ≤ 10 := by have := (tabB_true hb).1; have := HL.out; omega
  have HFB := Lib.hid (fun i hi => fst_bits (i := i) hb HL.out hi)
  have HV : Hid (eqT T = eqTo T n) := Lib.hid (by unfold eqT eqTo; rw [HE.out, if_pos rfl, HL.out])
  rw [HV.out]
  clear hz hb
  go_enter Try.func24, Try.ntmps24
  go_wp2_with fail
  refine (tableOf_any V n c T none 0 0 [] _ H.out HN.out ⟨rfl, fun h => absurd h (by omega)⟩ (by omega)).mono ?_
  rw [HZ.out]
  rintro e w1 ⟨⟨a, b, F, rfl, hF⟩, b1⟩
  obtain ⟨rfl, rfl, rfl⟩ := hF rfl
  have bA := below_boxT w1 (.cells (tabA a (colT T) (bitsT T)) 83)
  have C1 := Lib.hid (below_trans' b1 bA)
  have G1 := Lib.hid (TBox.new w1 a (colT T) (bitsT T))
  obtain ⟨W, hW⟩ : ∃ W, W = w1.alloc (.cells (tabA a (colT T) (bitsT T)) 83) := ⟨_, rfl⟩
  have hW2 := hW
  unfold tabA at hW2
  rw [← hW] at C1 G1
  have hn0 := G1.out.nm.1
  rw [hW2] at hn0
  have hmk := run_make_row' (P := Try.prog) 27 2 (.int .i64 0) 8 Try.underlying27 Try.info2' rfl .i64 .i64 a (by omega) (by omega)
  clear b1 bA hF
  go_wp2
  rw [← hW2] at *
  have HWS : Hid (W.heap.size = w1.heap.size + 1) := Lib.hid (by rw [hW]; simp)
  clear hmk hn0 hW hW2
  go_loopw [21] (fun i wr => ∃ j : Nat, j ≤ a ∧ i = .int .i64 j ∧ Hid (wr.rowIs (w1.heap.size + 1) 2 a (eqAt T j)) ∧ Hid (Below W.heap.size W wr)) (fun i _ => a - (intOf i).toNat)
  case atStart =>
    exact ⟨0, Nat.zero_le _, rfl, Lib.hid (by rw [← HWS.out]; exact (World.rowIs_made W (.int .i64 0) a 2).congr (fun i _ => by simp [eqAt])), Lib.hid (below_boxT W _)⟩
  case round =>
    obtain ⟨j, hj, rfl, HR, HB⟩ := hrel
    by_cases hlt : j < a
    · have HG := Lib.hid (G1.out.on HB.out)
      have hcj := HG.out.cell (i := j) (by omega)
      have hst := HR.out.cell hlt
      have hfz := HR.out.frozen j
      have i0 : (0 : Int) ≤ (j : Int) := by omega
      have i1 : (j : Int) < 10 := by omega
      have i2 : (j : Int) < (a : Int) := by omega
      obtain ⟨f1, f2, f3⟩ := HFB.out j hlt
      have HIX := Lib.hid (fun w' (hw : TBox w' w1.heap.size a (colT T) (bitsT T)) => index_any w1.heap.size a (colT T) (bitsT T) (bitsT T j) (fstR T j) w' hw (by omega) f2 f3)
      clear f1 f2 f3
      go_wp2
      go_region_with (go_at_call 85; refine (HIX.out _ (HG.out.on (below_drewN (Below.refl _ _) 1))).mono ?_; rintro e w' ⟨rfl, rfl⟩)
      have HR1 : (wr.drewN 1).rowIs (w1.heap.size + 1) 2 a (eqAt T j) := HR.out.of_block rfl
      have HR2 := Lib.hid ((HR1.set j (.int .i64 (fstR T j : Int))).congr (fun i _ => eqAt_step T j i))
      have HB2 := Lib.hid ((below_drewN HB.out 1).setCell (p := ⟨w1.heap.size + 1, j, none⟩) (by show W.heap.size ≤ w1.heap.size + 1; rw [HWS.out]; exact Nat.le_refl _) (.int .i64 (fstR T j : Int)))
      clear HR1 hst hfz hcj
      go_wp2
      go_roundw
      case rel => exact ⟨j + 1, by omega, by go_num, HR2, HB2⟩
      case measure => simp [intOf]; omega
    · obtain rfl : j = a := by omega
      have HRR := HR.out.congr (g := fun i => .int .i64 ((eqTo T j).getD i 0)) (fun i hi => by
        unfold eqAt eqTo
        rw [if_pos hi, List.getD_eq_getElem?_getD, List.getElem?_map, List.getElem?_range hi]; rfl)
      have hl2 := HR.out.lt
      have OR : Own wr W.heap.size wr.heap.size (some ⟨w1.heap.size + 1, 0, none⟩) j (eqTo T j) := Own.of_row HRR (eqTo_len T j) (by rw [HWS.out]; exact Nat.le_refl _)
      have C2 := Lib.hid (below_trans' C1.out HB.out)
      have HO := Lib.hid (OR.more C1.out.size (Nat.le_refl _) (Nat.le_refl _))
      clear OR HRR
      go_wp2
      go_ret2
      exact ⟨_, j, _, rfl, HO.out, by omega, Nat.le_refl _, by omega, C2.out⟩

end Go.Proofs.Ytidjnnooeepklaa
