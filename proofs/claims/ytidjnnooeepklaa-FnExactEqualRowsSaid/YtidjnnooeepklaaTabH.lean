/- The program's DoorsInCommon, IsHierarchical, EqualRows. -/
import Derived.Test.YtidjnnooeepklaaTabR
import Derived.Deep.RegionHeld3
namespace Go.Proofs.Ytidjnnooeepklaa
open Go Go.RowKit

theorem tk2_zero {T : List (List Int)} {a b : Int} (h : tk2E T a b = 0) : tkE T a = 0 ∧ tkE T b = 0 := by
  unfold tk2E at h
  by_cases e : tkE T a = 0
  · rw [if_pos e] at h; exact ⟨e, h⟩
  · rw [if_neg e] at h; exact absurd h e

set_option maxRecDepth 100000 in
set_option maxHeartbeats 4000000 in
theorem doorsInCommon_any (V : Option Addr) (n c : Nat) (T : List (List Int)) (x y : Int) (w : World) (h : Sets w w.heap.size V n T) (hn : n + sizeL T ≤ 1048576) :
    Calls Try.prog 30 #[.slice V n c, .int .i64 x, .int .i64 y] w (GivesList w (tk2E T x y) (dcL T x y)) := by
  have HL := Lib.hid h.len
  have HN := Lib.hid hn
  have c0 := below_boxT w (.cells #[.int .i64 x, .int .i64 y] 2)
  have H := Lib.hid (h.on c0)
  have C0 := Lib.hid c0
  have X := Lib.hid (ints_two w x y)
  clear h hn c0
  obtain ⟨z, hz⟩ : ∃ z, tksE T [x, y] = z := ⟨_, rfl⟩
  have HZ := Lib.hid hz
  have HE : Hid (tk2E T x y = z) := Lib.hid (by rw [← tks_two]; exact hz)
  rw [HE.out]
  by_cases hz0 : z = 0
  rotate_left
  · have HV : Hid (dcL T x y = []) := Lib.hid (by unfold dcL; rw [HE.out, if_neg hz0])
    have ht : (z != 0) = true := by simpa using hz0
    rw [HV.out]
    clear hz hz0
    go_enter Try.func30, Try.ntmps30
    go_wp2_with fail
    refine (tableOf_any V n c T _ 2 2 [x, y] _ H.out HN.out X.out (by omega)).mono ?_
    rw [HZ.out]
    rintro e w1 ⟨⟨a, b, F, rfl, _⟩, b1⟩
    have C1 := Lib.hid ((below_trans' C0.out b1).alloc (below_trans' C0.out b1).size (.cells (tabA a b F) 83))
    clear b1
    go_wp2
    go_ret2
    exact ⟨none, 0, 0, rfl, Own.nil _ (Nat.le_refl _), by omega, by omega, by omega, C1.out⟩
  subst hz0
  obtain ⟨hb, hw⟩ := tks_hyp HL.out hz
  obtain ⟨hx, hy⟩ := with_two hw
  obtain ⟨K, rfl⟩ := Int.eq_ofNat_of_zero_le hx.1
  obtain ⟨J, rfl⟩ := Int.eq_ofNat_of_zero_le hy.1
  have hK : K < n := by omega
  have hJ : J < n := by omega
  have hn10 : n ≤ 10 := by have := (tabB_true hb).1; have := HL.out; omega
  have fk := bitsT_lt hb rfl HL.out hK
  have fj := bitsT_lt hb rfl HL.out hJ
  have hand := nat_and16 (bitsT T K) (bitsT T J) (by omega) (by omega)
  have hal : bitsT T K &&& bitsT T J < 4096 := Nat.lt_of_le_of_lt Nat.and_le_left fk
  have HV : Hid (dcL T (K : Int) (J : Int) = lisN (bitsT T K &&& bitsT T J) 12) := Lib.hid (by
    unfold dcL
    rw [HE.out, if_pos rfl, Int.toNat_natCast, Int.toNat_natCast]
    exact (comR_list (rowB_true (tab_row hb rfl HL.out hK)).1 (by have := (tabB_true hb).2.1; omega)).symm)
  rw [HV.out]
  have i0 : (0 : Int) ≤ (K : Int) := by omega
  have i1 : (K : Int) < 10 := by omega
  have i2 : (0 : Int) ≤ (J : Int) := by omega
  have i3 : (J : Int) < 10 := by omega
  have hK10 : K < 10 := by omega
  have hJ10 : J < 10 := by omega
  clear hz hw hx hy hb fk fj
  go_enter Try.func30, Try.ntmps30
  go_wp2_with fail
  refine (tableOf_any V n c T _ 2 2 [(K : Int), (J : Int)] _ H.out HN.out X.out (by omega)).mono ?_
  rw [HZ.out]
  rintro e w1 ⟨⟨a, b, F, rfl, hF⟩, b1⟩
  obtain ⟨rfl, rfl, rfl⟩ := hF rfl
  have bA := below_boxT w1 (.cells (tabA a (colT T) (bitsT T)) 83)
  have C1 := Lib.hid (below_trans' (below_trans' C0.out b1) bA)
  have G1 := Lib.hid (TBox.new w1 a (colT T) (bitsT T))
  clear b1 bA hF
  obtain ⟨W, hW⟩ : ∃ W, W = w1.alloc (.cells (tabA a (colT T) (bitsT T)) 83) := ⟨_, rfl⟩
  have hW2 := hW
  unfold tabA at hW2
  go_wp2
  rw [← hW2]
  rw [← hW] at C1 G1
  clear hW hW2
  have hc1 := G1.out.cell (i := K) hK10
  have hc2 := G1.out.cell (i := J) hJ10
  go_region_held3 (fun w' => w'.cell? ⟨w1.heap.size, 2 + K, none⟩ = some (.int .u16 ((bitsT T K : Nat) : Int)) ∧ w'.cell? ⟨w1.heap.size, 2 + J, none⟩ = some (.int .u16 ((bitsT T J : Nat) : Int)))
    (first
      | go_keep
      | (with_reducible exact E1.out))
    (first
      | (go_at_call 90; refine (doorList_any _ hal _).mono ?_; rintro e w2 ⟨A2, n2, c2, rfl, ho, h1, h2, h3, b2⟩; have bb := below_trans' (below_drewN (Below.refl _ _) 1) b2; have C2 := Lib.hid (below_trans' C1.out bb); have HO := Lib.hid (ho.more (by show w.heap.size ≤ _; exact (below_drewN C1.out 1).size) (Nat.le_refl _) (Nat.le_refl _)); have E1 := Lib.hid (And.intro ((G1.out.on bb).cell (i := K) hK10) ((G1.out.on bb).cell (i := J) hJ10))))
  go_wp2
  go_ret2
  exact ⟨_, n2, _, rfl, HO.out, h1, h2, h3, C2.out⟩

theorem hierP_bits {m : Nat} {xs ys : List Int} (hx : rowB m xs = true) (hy : rowB m ys = true) : hierP xs ys = !ovB (bitN xs) (bitN ys) := by
  unfold hierP ovB
  rw [← inR_bits hx hy, ← inR_bits hy hx, ← comR_bits]
  rcases decide (bitN xs &&& bitN ys = 0) with _ | _ <;> rcases decide (bitN xs &&& bitN ys = bitN xs) with _ | _ <;> rcases decide (bitN ys &&& bitN xs = bitN ys) with _ | _ <;> rfl
theorem overlaps_at (a b : Nat) (q : Bool) (ha : a < 4096) (hb : b < 4096) (hq : ovB a b = q) (w : World) :
    Calls Try.prog 91 #[.int .u16 (a : Int), .int .u16 (b : Int)] w fun e w' => e = .returned (.bool q) ∧ w = w' := by
  subst hq; exact overlaps_any a b ha hb w
theorem ret_bi' {a b : Bool} {c d : Int} (h : a = b) (h2 : c = d) : Ending.returned (.tuple #[.bool a, .int .i64 c]) = .returned (.tuple #[.bool b, .int .i64 d]) := by rw [h, h2]

set_option maxRecDepth 100000 in
set_option maxHeartbeats 4000000 in
theorem isHierarchical_any (V : Option Addr) (n c : Nat) (T : List (List Int)) (w : World) (h : Sets w w.heap.size V n T) (hn : n + sizeL T ≤ 1048576) :
    Calls Try.prog 32 #[.slice V n c] w fun e w' => e = .returned (.tuple #[.bool (hierV T), .int .i64 (tE T)]) ∧ Below w.heap.size w w' := by
  have HL := Lib.hid h.len
  have HN := Lib.hid hn
  have H := Lib.hid h
  clear h hn
  obtain ⟨z, hz⟩ : ∃ z, tksE T [] = z := ⟨_, rfl⟩
  have HZ := Lib.hid hz
  have HE : Hid (tE T = z) := Lib.hid (by rw [← tks_none]; exact hz)
  by_cases hz0 : z = 0
  rotate_left
  · have HV : Hid (hierV T = false) := Lib.hid (by unfold hierV; rw [HE.out, if_neg hz0])
    have ht : (z != 0) = true := by simpa using hz0
    clear hz hz0
    go_enter Try.func32, Try.ntmps32
    go_wp2_with fail
    refine (tableOf_any V n c T none 0 0 [] _ H.out HN.out ⟨rfl, fun h => absurd h (by omega)⟩ (by omega)).mono ?_
    rw [HZ.out]
    rintro e w1 ⟨⟨a, b, F, rfl, _⟩, b1⟩
    have C1 := Lib.hid (b1.alloc b1.size (.cells (tabA a b F) 83))
    clear b1
    go_wp2
    go_ret2
    exact ⟨ret_bi' HV.out.symm HE.out.symm, C1.out⟩
  subst hz0
  have hb := tks_zero hz
  have hn10 : n ≤ 10 := by have := (tabB_true hb).1; have := HL.out; omega
  have HLT := Lib.hid (fun i hi => bitsT_lt (i := i) hb rfl HL.out hi)
  have HROW := Lib.hid (fun i hi => tab_row (i := i) hb rfl HL.out hi)
  have HV : Hid (hierV T = hierB T n) := Lib.hid (by unfold hierV; rw [HE.out, if_pos rfl, HL.out])
  clear hz
  go_enter Try.func32, Try.ntmps32
  go_wp2_with fail
  refine (tableOf_any V n c T none 0 0 [] _ H.out HN.out ⟨rfl, fun h => absurd h (by omega)⟩ (by omega)).mono ?_
  rw [HZ.out]
  rintro e w1 ⟨⟨a, b, F, rfl, hF⟩, b1⟩
  obtain ⟨rfl, rfl, rfl⟩ := hF rfl
  have bA := below_boxT w1 (.cells (tabA a (colT T) (bitsT T)) 83)
  have C1 := Lib.hid (below_trans' b1 bA)
  have G1 := Lib.hid (TBox.new w1 a (colT T) (bitsT T))
  have hn0 := G1.out.nm.1
  unfold tabA at hn0
  clear b1 bA hF hb
  go_wp2
  clear hn0
  go_loopw [18] (fun i wr => ∃ j : Nat, j ≤ a ∧ i = .int .i64 j ∧ Hid (hierB T j = true) ∧ Hid (TBox wr w1.heap.size a (colT T) (bitsT T)) ∧ Hid (Below w.heap.size w wr)) (fun i _ => a - (intOf i).toNat)
  case atStart => exact ⟨0, Nat.zero_le _, rfl, Lib.hid rfl, G1, C1⟩
  case round =>
    obtain ⟨j, hj, rfl, hall, HG, HB⟩ := hrel
    clear G1 C1
    by_cases hlt : j < a
    · go_wp2
      go_loopw [22] (fun i wr => ∃ k : Nat, k ≤ j ∧ i = .int .i64 k ∧ Hid (hierK T j k = true) ∧ Hid (TBox wr w1.heap.size a (colT T) (bitsT T)) ∧ Hid (Below w.heap.size w wr)) (fun i _ => j - (intOf i).toNat)
      case atStart => exact ⟨0, Nat.zero_le _, rfl, Lib.hid rfl, HG, HB⟩
      case round =>
        obtain ⟨k, hk, rfl, hall2, HG2, HB2⟩ := hrel
        clear HG HB
        by_cases hkj : k < j
        · have hc1 := HG2.out.cell (i := j) (by omega)
          have hc2 := HG2.out.cell (i := k) (by omega)
          have i0 : (0 : Int) ≤ (j : Int) := by omega
          have i1 : (j : Int) < 10 := by omega
          have i2 : (0 : Int) ≤ (k : Int) := by omega
          have i3 : (k : Int) < 10 := by omega
          have fj := HLT.out j hlt
          have fk := HLT.out k (by omega)
          have HP := Lib.hid (hierP_bits (HROW.out j hlt) (HROW.out k (by omega)))
          rcases ho : ovB (bitsT T j) (bitsT T k) with _ | _ <;> have HO := Lib.hid ho
          · have HK : Hid (hierK T j (k + 1) = true) := Lib.hid (by rw [hierK_step, hall2.out, HP.out, show ovB (bitN (getR T j)) (bitN (getR T k)) = false from ho]; rfl)
            clear ho
            go_wp2
            go_quiet ((go_at_call 91; exact quiet_left (overlaps_at _ _ _ fj fk HO.out _)))
            go_wp2
            go_roundw
            case rel => exact ⟨k + 1, by omega, by go_num, HK, Lib.hid (HG2.out.on (below_drewN (Below.refl _ _) _)), Lib.hid (below_drewN HB2.out _)⟩
            case measure => simp [intOf]; omega
          · have HQ : Hid (hierB T a = false) := Lib.hid (hierB_no hlt (hierK_no hkj (by rw [HP.out, show ovB (bitN (getR T j)) (bitN (getR T k)) = true from ho]; rfl)))
            clear ho
            go_wp2
            go_quiet ((go_at_call 91; exact quiet_left (overlaps_at _ _ _ fj fk HO.out _)))
            go_wp2
            go_ret2
            exact ⟨ret_bi' (by rw [HV.out, HQ.out]) HE.out.symm, below_drewN HB2.out _⟩
        · obtain rfl : k = j := by omega
          have HK : Hid (hierB T (k + 1) = true) := Lib.hid (by rw [hierB_step, hall.out, hall2.out]; rfl)
          go_wp2
          go_roundw
          case rel => exact ⟨k + 1, by omega, by go_num, HK, HG2, HB2⟩
          case measure => simp [intOf]; omega
    · obtain rfl : j = a := by omega
      go_wp2
      go_ret2
      exact ⟨ret_bi' (by rw [HV.out, hall.out]) HE.out.symm, HB.out⟩

end Go.Proofs.Ytidjnnooeepklaa
