/- The law of CommonGroup. -/
import Derived.Test.YtgbicepneonkfaaLBld
import Derived.Deep.RegionHeld3
namespace Go.Proofs.Ytgbicepneonkfaa
open Go.RowKit

set_option maxRecDepth 100000 in
set_option maxHeartbeats 4000000 in
theorem lawCommonGroup_any (A : Option Addr) (n c : Nat) (B : Option Addr) (k d : Nat) (P : List Int) (D : List Bool) (N : Option Addr) (q e0 : Nat) (xs : List Int) (w : World) (h : Bld w A n B k P D) (hn : n ≤ 9223372036854775807) (hk : k ≤ 9223372036854775807) (hx : Ints w w.heap.size N q xs) :
    Calls Try.prog 13 #[.agg #[.slice A n c, .slice B k d], .slice N q e0] w fun e w' => e = .returned (.bool true) ∧ Below w.heap.size w w' := by
  have c0 := (Below.refl w.heap.size w).alloc (Nat.le_refl _) (.cells #[.slice A n c, .slice B k d] 76)
  have X0 := Lib.hid (Cell2.new w 76 (.slice A n c) (.slice B k d))
  have C0 := Lib.hid c0
  have H := Lib.hid h
  obtain ⟨q0, q1⟩ := X0.out.cells
  clear c0 h
  have HXS := Lib.hid hx
  clear hx
  by_cases hq : q ≤ 1048576
  rotate_left
  · go_enter Try.func13, Try.ntmps13
    go_wp2
    go_ret
    exact ⟨rfl, C0.out⟩
  go_enter Try.func13, Try.ntmps13
  go_wp2_with fail
  refine (szBuilding_any A B n c k d _ hn hk).mono ?_
  rintro e w1 ⟨⟨r, rfl, hr⟩, b1⟩
  have X1 := Lib.hid (X0.out.on b1)
  have C1 := Lib.hid (below_trans' C0.out b1)
  have HR := Lib.hid hr
  clear b1 q0 q1 hr X0 C0
  by_cases h0 : r < 0
  · go_wp2
    go_ret
    exact ⟨rfl, C1.out⟩
  have hnk := HR.out (by omega)
  have hn2 : n ≤ 1048576 := by omega
  have hk2 : k ≤ 1048576 := by omega
  obtain ⟨q0, q1⟩ := X1.out.cells
  have d1 : (cgV P D xs != cgV P D xs) = false := by simp
  have d2 : (cgE P D xs != cgE P D xs) = false := by simp
  go_wp2_with fail
  refine (toBuilding_any A B n c k d P D _ (H.out.on C1.out) hnk).mono ?_
  rintro e w2 ⟨Ay, ny, cy, By, ky, dy, rfl, oy, b2⟩
  obtain rfl : n = ny := by rw [← oy.ps.len, ← H.out.ps.len]
  obtain rfl : k = ky := by rw [← oy.ds.len, ← H.out.ds.len]
  have X2 := Lib.hid (X1.out.on b2)
  have C2 := Lib.hid (below_trans' C1.out b2)
  have O2 := Lib.hid oy.bld
  clear b2 oy X1 C1 q0 q1
  go_wp2_with fail
  refine (toInt64S_any _ _ _ xs _ (HXS.out.on C2.out) hq).mono ?_
  rintro e u2 ⟨gy, rfl, _, ry, b2⟩
  have I2 := Lib.hid (Ints.of_row ry HXS.out.len)
  have X2' := Lib.hid (X2.out.on b2)
  have C2' := Lib.hid (below_trans' C2.out b2)
  have O2' := Lib.hid (O2.out.on b2)
  clear b2 ry X2 C2 O2
  go_wp2_with fail
  refine (specCommonGroup_any _ _ _ _ _ _ _ _ _ P D xs _ O2'.out I2.out hn2 hk2 hq).mono ?_
  rintro e w3 ⟨rfl, b3⟩
  have X3 := Lib.hid (X2'.out.on b3)
  have C3 := Lib.hid (below_trans' C2'.out b3)
  clear b3 X2' C2' O2' I2
  obtain ⟨q0, q1⟩ := X3.out.cells
  go_wp2_with fail
  refine (toBuilding_any A B n c k d P D _ (H.out.on C3.out) hnk).mono ?_
  rintro e w4 ⟨Ax, nx, cx, Bx, kx, dx, rfl, ox, b4⟩
  obtain rfl : n = nx := by rw [← ox.ps.len, ← H.out.ps.len]
  obtain rfl : k = kx := by rw [← ox.ds.len, ← H.out.ds.len]
  have bA := (Below.refl w4.heap.size w4).alloc (Nat.le_refl _) (.cells #[.slice Ax n cx, .slice Bx k dx] 55)
  have X4 := Lib.hid ((X3.out.on b4).on bA)
  have C4 := Lib.hid (below_trans' (below_trans' C3.out b4) bA)
  have G4 := Lib.hid (Cell2.new w4 55 (.slice Ax n cx) (.slice Bx k dx))
  have O4 := Lib.hid (ox.below bA)
  clear b4 bA ox X3 C3 q0 q1
  go_wp2_with fail
  refine (toInt64S_any _ _ _ xs _ (HXS.out.on C4.out) hq).mono ?_
  rintro e u4 ⟨gx, rfl, _, rx, b4⟩
  have I4 := Lib.hid (Ints.of_row rx HXS.out.len)
  have X4' := Lib.hid (X4.out.on b4)
  have C4' := Lib.hid (below_trans' C4.out b4)
  have G4' := Lib.hid (G4.out.on b4)
  have O4' := Lib.hid (O4.out.below b4)
  obtain ⟨g0, g1⟩ := G4'.out.cells
  clear b4 rx X4 C4 G4 O4
  go_wp2_with fail
  refine (commonGroup_any _ _ _ _ _ _ _ _ _ P D xs _ O4'.out.bld I4.out hn2 hk2 hq).mono ?_
  rintro e w5 ⟨rfl, b5⟩
  have X5 := Lib.hid (X4'.out.on b5)
  have C5 := Lib.hid (below_trans' C4'.out b5)
  have G5 := Lib.hid (G4'.out.on b5)
  have O5 := Lib.hid (O4'.out.below b5)
  have I5 := Lib.hid (I4.out.on b5)
  clear b5 X4' C4' G4' O4' I4 g0 g1
  obtain ⟨q0, q1⟩ := X5.out.cells
  obtain ⟨g0, g1⟩ := G5.out.cells
  go_wp2
  go_region_held3 (fun w' => w'.cell? ⟨w.heap.size, 0, none⟩ = some (.slice A n c) ∧ w'.cell? ⟨w.heap.size, 1, none⟩ = some (.slice B k d) ∧ w'.cell? ⟨w4.heap.size, 0, none⟩ = some (.slice Ax n cx) ∧ w'.cell? ⟨w4.heap.size, 1, none⟩ = some (.slice Bx k dx))
    (first
      | go_keep
      | (with_reducible exact E1.out)
      | (with_reducible exact E2.out))
    (first
      | (go_at_call 59; refine (toBuilding_any A B n c k d P D _ (H.out.on (below_drewN C5.out 1)) hnk).mono ?_; rintro e wa ⟨Aa, na, ca, Ba, ka, da, rfl, oa, ba⟩; (obtain rfl : n = na := by rw [← oa.ps.len, ← H.out.ps.len]); (obtain rfl : k = ka := by rw [← oa.ds.len, ← H.out.ds.len]); have Xa := Lib.hid (X5.out.on (below_trans' (below_drewN (Below.refl _ _) 1) ba)); have Ga := Lib.hid (G5.out.on (below_trans' (below_drewN (Below.refl _ _) 1) ba)); have Ca := Lib.hid (below_trans' C5.out (below_trans' (below_drewN (Below.refl _ _) 1) ba)); have Oa := Lib.hid oa.bld; have OXa := Lib.hid (O5.out.below (below_trans' (below_drewN (Below.refl _ _) 1) ba)); have Ia := Lib.hid (I5.out.on (below_trans' (below_drewN (Below.refl _ _) 1) ba)); have E1 := Lib.hid (both_cells Xa.out Ga.out))
      | (go_at_call 61; refine (eqBuilding_true _ _ _ _ _ _ _ _ _ _ P D _ OXa.out.bld Oa.out hn2 hk2).mono ?_; rintro e wb ⟨rfl, bb⟩; have Xb := Lib.hid (Xa.out.on bb); have Gb := Lib.hid (Ga.out.on bb); have Cb := Lib.hid (below_trans' Ca.out bb); have OXb := Lib.hid (OXa.out.below bb); have Ib := Lib.hid (Ia.out.on bb); have E2 := Lib.hid (both_cells Xb.out Gb.out)))
  clear q0 q1 g0 g1 X5 C5 G5 O5 I5 E1 E2 Xa Ga Ca Oa OXa Ia oa ba bb
  go_wp2_with fail
  refine (toInt64S_any _ _ _ xs _ (HXS.out.on Cb.out) hq).mono ?_
  rintro e w6 ⟨gz, rfl, _, rz, b6⟩
  have I6 := Lib.hid (Ib.out.on b6)
  have J6 := Lib.hid (Ints.of_row rz HXS.out.len)
  have C6 := Lib.hid (below_trans' Cb.out b6)
  clear b6 rz Xb Gb Cb OXb Ib
  go_wp2_with fail
  refine (eqInts_true _ _ _ _ _ xs _ I6.out J6.out hq).mono ?_
  rintro e w7 ⟨rfl, b7⟩
  have C7 := Lib.hid (below_trans' C6.out b7)
  clear b7
  go_wp2
  go_ret
  exact ⟨rfl, C7.out⟩

end Go.Proofs.Ytgbicepneonkfaa
