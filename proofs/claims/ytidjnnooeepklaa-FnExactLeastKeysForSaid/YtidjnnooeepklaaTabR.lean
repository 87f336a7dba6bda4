/- The program's CountDoors, DoorsInCommon and IsHierarchical. -/
import Derived.Test.YtidjnnooeepklaaTabQ
namespace Go.Proofs.Ytidjnnooeepklaa
open Go Go.RowKit

theorem tks_hyp {T : List (List Int)} {ks : List Int} {n : Nat} (hl : T.length = n) (h : tksE T ks = 0) : tabB T = true ∧ withB 0 ((n : Int) - 1) ks = true := by
  have hb := tks_zero h
  refine ⟨hb, ?_⟩
  unfold tksE at h
  rw [hb, hl] at h
  rcases hw : withB 0 ((n : Int) - 1) ks with _ | _
  · rw [hw] at h; cases h
  · rfl
theorem with_one {lo hi x : Int} (h : withB lo hi [x] = true) : lo ≤ x ∧ x ≤ hi := by
  have := (withB_true h).2
  unfold allIn at this
  simp at this
  exact inB_true.1 this
theorem with_two {lo hi x y : Int} (h : withB lo hi [x, y] = true) : (lo ≤ x ∧ x ≤ hi) ∧ lo ≤ y ∧ y ≤ hi := by
  have := (withB_true h).2
  unfold allIn at this
  simp at this
  exact ⟨inB_true.1 this.1, inB_true.1 this.2⟩

set_option maxRecDepth 100000 in
set_option maxHeartbeats 4000000 in
theorem countDoors_any (V : Option Addr) (n c : Nat) (T : List (List Int)) (x : Int) (w : World) (h : Sets w w.heap.size V n T) (hn : n + sizeL T ≤ 1048576) :
    Calls Try.prog 29 #[.slice V n c, .int .i64 x] w fun e w' => e = .returned (.tuple #[.int .i64 (cdV T x), .int .i64 (tkE T x)]) ∧ Below w.heap.size w w' := by
  have HL := Lib.hid h.len
  have HN := Lib.hid hn
  have c0 := below_boxT w (.cells #[.int .i64 x] 2)
  have H := Lib.hid (h.on c0)
  have C0 := Lib.hid c0
  have X := Lib.hid (ints_one w x)
  clear h hn c0
  rw [← tks_one]
  obtain ⟨z, hz⟩ : ∃ z, tksE T [x] = z := ⟨_, rfl⟩
  have HZ := Lib.hid hz
  have HE : Hid (tkE T x = z) := Lib.hid (by rw [← tks_one]; exact hz)
  rw [hz]
  by_cases hz0 : z = 0
  rotate_left
  · have HV : Hid (cdV T x = 0) := Lib.hid (by unfold cdV; rw [HE.out, if_neg hz0])
    have ht : (z != 0) = true := by simpa using hz0
    clear hz hz0
    go_enter Try.func29, Try.ntmps29
    go_wp2_with fail
    refine (tableOf_any V n c T _ 1 1 [x] _ H.out HN.out X.out (by omega)).mono ?_
    rw [HZ.out]
    rintro e w1 ⟨⟨a, b, F, rfl, _⟩, b1⟩
    have C1 := Lib.hid ((below_trans' C0.out b1).alloc (below_trans' C0.out b1).size (.cells (tabA a b F) 83))
    clear b1
    go_wp2
    go_ret2
    exact ⟨ret_int2 HV.out.symm rfl, C1.out⟩
  subst hz0
  obtain ⟨hb, hw⟩ := tks_hyp HL.out hz
  have hx := with_one hw
  obtain ⟨K, rfl⟩ := Int.eq_ofNat_of_zero_le hx.1
  have hK : K < n := by omega
  have hn10 : n ≤ 10 := by have := (tabB_true hb).1; have := HL.out; omega
  have HLT := Lib.hid (bitsT_lt hb rfl HL.out hK)
  have HV : Hid (cdV T (K : Int) = (onesN 12 (bitsT T K) : Nat)) := Lib.hid (by
    unfold cdV
    rw [HE.out, if_pos rfl, Int.toNat_natCast]
    have hr := rowB_true (tab_row hb rfl HL.out hK)
    exact (ones_sum _ 12 (by have := (tabB_true hb).2.1; omega) hr.2).symm)
  have i0 : (0 : Int) ≤ (K : Int) := by omega
  have i1 : (K : Int) < 10 := by omega
  have hK10 : K < 10 := by omega
  clear hz hw hx
  go_enter Try.func29, Try.ntmps29
  go_wp2_with fail
  refine (tableOf_any V n c T _ 1 1 [(K : Int)] _ H.out HN.out X.out (by omega)).mono ?_
  rw [HZ.out]
  rintro e w1 ⟨⟨a, b, F, rfl, hF⟩, b1⟩
  obtain ⟨rfl, rfl, rfl⟩ := hF rfl
  have C1 := Lib.hid ((below_trans' C0.out b1).alloc (below_trans' C0.out b1).size (.cells (tabA a (colT T) (bitsT T)) 83))
  have G1 := Lib.hid (TBox.new w1 a (colT T) (bitsT T))
  have hc := G1.out.cell (i := K) hK10
  unfold tabA at hc
  clear b1 hb
  go_wp2_with fail
  refine (doorSize_any (bitsT T K) HLT.out _).mono ?_
  rintro e w2 ⟨rfl, q2, rfl⟩
  have C2 := Lib.hid (below_drewN C1.out q2)
  clear hc
  go_wp2
  go_ret2
  exact ⟨ret_int2 HV.out.symm rfl, C2.out⟩

end Go.Proofs.Ytidjnnooeepklaa
