/- The model's ContainedIn, MasterKeys, CountDoors, DoorsInCommon. -/
import Derived.Test.YtidjnnooeepklaaTabR
import Derived.Test.YtidjnnooeepklaaSum
import Derived.Deep.RegionHeld3
namespace Go.Proofs.Ytidjnnooeepklaa
open Go Go.RowKit

theorem l11In_at (A A' : Option Addr) (m c c' : Nat) (xs ys : List Int) (w : World) (q : Bool) (hq : inR xs ys = q) (h : Ints w w.heap.size A m xs) (h' : Ints w w.heap.size A' m ys) (hm : m ≤ 1048576) :
    Calls Try.prog 84 #[.slice A m c, .slice A' m c'] w fun e w' => e = .returned (.bool q) ∧ ∃ q, w' = w.drewN q := by
  subst hq; exact l11In_any A A' m c c' xs ys w h h' hm
theorem in_nat {k : Int} {n : Nat} (h : inB k 0 ((n : Int) - 1) = true) : ∃ K : Nat, k = (K : Int) ∧ K < n := by
  have := inB_true.1 h
  obtain ⟨K, rfl⟩ := Int.eq_ofNat_of_zero_le this.1
  exact ⟨K, rfl, by omega⟩

set_option maxRecDepth 100000 in
set_option maxHeartbeats 4000000 in
theorem specCountDoors_any (V : Option Addr) (n c : Nat) (T : List (List Int)) (x : Int) (w : World) (h : Sets w w.heap.size V n T) (hn : n + sizeL T ≤ 1048576) :
    Calls Try.prog 37 #[.slice V n c, .int .i64 x] w fun e w' => e = .returned (.tuple #[.int .i64 (cdV T x), .int .i64 (tkE T x)]) ∧ Below w.heap.size w w' := by
  have HL := Lib.hid h.len
  have HN := Lib.hid hn
  have H := Lib.hid h
  clear h hn
  obtain ⟨z, hz⟩ : ∃ z, tkE T x = z := ⟨_, rfl⟩
  have HE := Lib.hid hz
  by_cases hz0 : z = 0
  rotate_left
  · have HV : Hid (cdV T x = 0) := Lib.hid (by unfold cdV; rw [HE.out, if_neg hz0])
    have ht : (z != 0) = true := by simpa using hz0
    clear hz hz0
    go_enter Try.func37, Try.ntmps37
    go_wp2_with fail
    refine (l11Code_any V n c T x _ H.out HN.out).mono ?_
    rw [HE.out]
    rintro e w1 ⟨rfl, b1⟩
    have C1 := Lib.hid b1
    clear b1
    go_wp2
    go_ret2
    exact ⟨ret_int2 HV.out.symm HE.out.symm, C1.out⟩
  subst hz0
  obtain ⟨hb, hin⟩ := tk_zero hz
  rw [HL.out] at hin
  obtain ⟨K, rfl, hK⟩ := in_nat hin
  have hr := rowB_true (tab_row hb rfl HL.out hK)
  have HV : Hid (cdV T (K : Int) = (getR T K).sum) := Lib.hid (by unfold cdV; rw [HE.out, if_pos rfl, Int.toNat_natCast])
  have HA : Hid (allIn 0 1000000000000 (getR T K) = true) := Lib.hid (by
    have h1 := hr.2
    unfold allIn at *
    rw [List.all_eq_true] at *
    intro v hv
    have := inB_true.1 (h1 v hv)
    exact inB_true.2 ⟨this.1, by omega⟩)
  have hm := (tabB_true hb).2.1
  have hm100 : colT T ≤ 100 := by omega
  obtain ⟨ad, A2, c2, rfl, hab, _, hc, hi, _, _⟩ := tab_at H.out hb rfl hK
  have HI := Lib.hid hi
  have HC := Lib.hid hc
  have HAB := Lib.hid hab
  have i0 : (0 : Int) ≤ (K : Int) := by omega
  have i1 : (K : Int) < (n : Int) := by omega
  clear hz hin hr hb hm hi hc hab
  go_enter Try.func37, Try.ntmps37
  go_wp2_with fail
  refine (l11Code_any (some ad) n c T (K : Int) _ H.out HN.out).mono ?_
  rw [HE.out]
  rintro e w1 ⟨rfl, b1⟩
  have C1 := Lib.hid b1
  have hc := (b1.cell (p := ad.add K) (by rw [block_of_add]; exact HAB.out)).trans HC.out
  have I1 := Lib.hid (HI.out.on b1)
  clear b1
  go_wp2_with (go_at_call 93; (with_reducible refine (l01Sum_any _ _ _ (getR T K) _ I1.out HA.out hm100).mono ?_); rintro e w' ⟨rfl, rfl⟩)
  go_ret2
  exact ⟨ret_int2 HV.out.symm HE.out.symm, C1.out⟩

set_option maxRecDepth 100000 in
set_option maxHeartbeats 4000000 in
theorem specDoorsInCommon_any (V : Option Addr) (n c : Nat) (T : List (List Int)) (x y : Int) (w : World) (h : Sets w w.heap.size V n T) (hn : n + sizeL T ≤ 1048576) :
    Calls Try.prog 35 #[.slice V n c, .int .i64 x, .int .i64 y] w (GivesList w (tk2E T x y) (dcL T x y)) := by
  have HL := Lib.hid h.len
  have HN := Lib.hid hn
  have H := Lib.hid h
  clear h hn
  obtain ⟨z, hz⟩ : ∃ z, tkE T x = z := ⟨_, rfl⟩
  have HE := Lib.hid hz
  by_cases hz0 : z = 0
  rotate_left
  · have HE2 : Hid (tk2E T x y = z) := Lib.hid (by unfold tk2E; rw [HE.out, if_neg hz0])
    have HV : Hid (dcL T x y = []) := Lib.hid (by unfold dcL; rw [HE2.out, if_neg hz0])
    have ht : (z == 0) = false := by simpa using hz0
    have ht2 : (z != 0) = true := by simpa using hz0
    rw [HE2.out, HV.out]
    clear hz hz0
    go_enter Try.func35, Try.ntmps35
    go_wp2_with fail
    refine (l11Code_any V n c T x _ H.out HN.out).mono ?_
    rw [HE.out]
    rintro e w1 ⟨rfl, b1⟩
    have C1 := Lib.hid b1
    clear b1
    go_wp2
    go_ret2
    exact ⟨none, 0, 0, rfl, Own.nil _ (Nat.le_refl _), by omega, by omega, by omega, C1.out⟩
  subst hz0
  obtain ⟨z2, hz2⟩ : ∃ z, tkE T y = z := ⟨_, rfl⟩
  have HY := Lib.hid hz2
  have HE2 : Hid (tk2E T x y = z2) := Lib.hid (by unfold tk2E; rw [HE.out, if_pos rfl, HY.out])
  rw [HE2.out]
  by_cases hz0 : z2 = 0
  rotate_left
  · have HV : Hid (dcL T x y = []) := Lib.hid (by unfold dcL; rw [HE2.out, if_neg hz0])
    have ht2 : (z2 != 0) = true := by simpa using hz0
    rw [HV.out]
    clear hz hz0 hz2
    go_enter Try.func35, Try.ntmps35
    go_wp2_with fail
    refine (l11Code_any V n c T x _ H.out HN.out).mono ?_
    rw [HE.out]
    rintro e w1 ⟨rfl, b1⟩
    have C1 := Lib.hid b1
    clear b1
    go_wp2_with fail
    refine (l11Code_any V n c T y _ (H.out.on C1.out) HN.out).mono ?_
    rw [HY.out]
    rintro e w2 ⟨rfl, b2⟩
    have C2 := Lib.hid (below_trans' C1.out b2)
    clear b2
    go_wp2
    go_ret2
    exact ⟨none, 0, 0, rfl, Own.nil _ (Nat.le_refl _), by omega, by omega, by omega, C2.out⟩
  subst hz0
  obtain ⟨hb, hin⟩ := tk_zero hz
  obtain ⟨_, hin2⟩ := tk_zero hz2
  rw [HL.out] at hin hin2
  obtain ⟨K, rfl, hK⟩ := in_nat hin
  obtain ⟨J, rfl, hJ⟩ := in_nat hin2
  have HV : Hid (dcL T (K : Int) (J : Int) = comR (getR T K) (getR T J)) := Lib.hid (by unfold dcL; rw [HE2.out, if_pos rfl, Int.toNat_natCast, Int.toNat_natCast])
  rw [HV.out]
  have hm := (tabB_true hb).2.1
  have hm100 : colT T ≤ 1048576 := by omega
  have HB := Lib.hid hb
  obtain ⟨ad, A2, c2, rfl, hab, _, hc, hi, _, _⟩ := tab_at H.out hb rfl hK
  obtain ⟨_, A3, c3, e3, _, _, hc3, hi3, _, _⟩ := tab_at H.out hb rfl hJ
  injection e3 with e3
  subst e3
  have HI := Lib.hid (And.intro hi hi3)
  have HC := Lib.hid (And.intro hc hc3)
  have HAB := Lib.hid hab
  have i0 : (0 : Int) ≤ (K : Int) := by omega
  have i1 : (K : Int) < (n : Int) := by omega
  have i2 : (0 : Int) ≤ (J : Int) := by omega
  have i3 : (J : Int) < (n : Int) := by omega
  clear hz hin hb hm hi hc hab hc3 hi3 hz2 hin2
  go_enter Try.func35, Try.ntmps35
  go_wp2_with fail
  refine (l11Code_any (some ad) n c T (K : Int) _ H.out HN.out).mono ?_
  rw [HE.out]
  rintro e w1 ⟨rfl, b1⟩
  have C1 := Lib.hid b1
  clear b1
  go_wp2_with fail
  refine (l11Code_any (some ad) n c T (J : Int) _ (H.out.on C1.out) HN.out).mono ?_
  rw [HY.out]
  rintro e w2 ⟨rfl, b2⟩
  have C2 := Lib.hid (below_trans' C1.out b2)
  have cK := (C2.out.cell (p := ad.add K) (by rw [block_of_add]; exact HAB.out)).trans HC.out.1
  have cJ := (C2.out.cell (p := ad.add J) (by rw [block_of_add]; exact HAB.out)).trans HC.out.2
  have I2 := Lib.hid (And.intro (HI.out.1.on C2.out) (HI.out.2.on C2.out))
  clear b2
  go_wp2
  go_region_held3 (fun w' => w'.cell? (ad.add K) = some (.slice A2 (colT T) c2) ∧ w'.cell? (ad.add J) = some (.slice A3 (colT T) c3))
    (first
      | go_keep
      | (with_reducible exact E1.out))
    (first
      | (go_at_call 92; refine (l11Common_any _ _ (colT T) _ _ (getR T K) (getR T J) _ (ints_drewN I2.out.1 1) (ints_drewN I2.out.2 1) hm100).mono ?_; rintro e w3 ⟨A4, n4, c4, rfl, ho, h1, h2, h3, b3⟩; have bb := below_trans' (below_drewN C2.out 1) b3; have C3 := Lib.hid bb; have HO := Lib.hid (ho.more (by show w.heap.size ≤ _; exact (below_drewN C2.out 1).size) (Nat.le_refl _) (Nat.le_refl _)); have E1 := Lib.hid (And.intro ((bb.cell (p := ad.add K) (by rw [block_of_add]; exact HAB.out)).trans HC.out.1) ((bb.cell (p := ad.add J) (by rw [block_of_add]; exact HAB.out)).trans HC.out.2))))
  all_goals
    go_wp2
    go_ret2
    exact ⟨_, n4, _, rfl, HO.out, h1, h2, h3, C3.out⟩

end Go.Proofs.Ytidjnnooeepklaa
