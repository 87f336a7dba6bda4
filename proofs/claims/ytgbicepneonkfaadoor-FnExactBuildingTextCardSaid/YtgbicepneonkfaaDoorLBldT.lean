/- The law of BuildingText. -/
import Derived.Test.YtgbicepneonkfaaDoorBldTP
import Derived.Test.YtgbicepneonkfaaDoorOpenB
import Derived.Deep.RegionHeld3
namespace Go.Proofs.YtgbicepneonkfaaDoor
open Go.RowKit

theorem both_cells {w : World} {b g : Nat} {s t : TypeId} {u v x y : Value} (h : Cell2 w b s u v) (k : Cell2 w g t x y) : w.cell? ⟨b, 0, none⟩ = some u ∧ w.cell? ⟨b, 1, none⟩ = some v ∧ w.cell? ⟨g, 0, none⟩ = some x ∧ w.cell? ⟨g, 1, none⟩ = some y := ⟨h.cells.1, h.cells.2, k.cells.1, k.cells.2⟩

set_option maxRecDepth 100000 in
set_option maxHeartbeats 4000000 in
theorem lawBuildingText_any (A : Option Addr) (n c : Nat) (B : Option Addr) (k d : Nat) (P : List Int) (D : List Bool) (w : World) (h : Bld w A n B k P D) (hn : n ≤ 9223372036854775807) (hk : k ≤ 9223372036854775807) (htab : Lib.TabBelow Tryd.prog w.heap.size w "internal/strconv.uint64pow10" .u64 Lib.pow10Tab) :
    Calls Tryd.prog 6 #[.agg #[.slice A n c, .slice B k d]] w fun e w' => e = .returned (.bool true) ∧ Below w.heap.size w w' := by
  have c0 := (Below.refl w.heap.size w).alloc (Nat.le_refl _) (.cells #[.slice A n c, .slice B k d] 53)
  have X0 := Lib.hid (Cell2.new w 53 (.slice A n c) (.slice B k d))
  have C0 := Lib.hid c0
  have H := Lib.hid h
  obtain ⟨q0, q1⟩ := X0.out.cells
  have HTB := Lib.hid htab
  clear c0 h htab
  go_enter Tryd.func6, Tryd.ntmps6
  go_wp2_with fail
  refine (szBuilding_any A B n c k d _ hn hk).mono ?_
  rintro e w1 ⟨⟨r, rfl, hr⟩, b1⟩
  have X1 := Lib.hid (X0.out.on b1)
  have C1 := Lib.hid (below_trans' C0.out b1)
  have HR := Lib.hid hr
  clear b1 q0 q1 hr X0 C0
  by_cases h0 : r < 0
  · go_wp2
    go_ret
    exact ⟨rfl, C1.out⟩
  have hnk := HR.out (by omega)
  have hn2 : n ≤ 1048576 := by omega
  have hk2 : k ≤ 1048576 := by omega
  obtain ⟨q0, q1⟩ := X1.out.cells
  go_wp2_with fail
  refine (toBuilding_any A B n c k d P D _ (H.out.on C1.out) hnk).mono ?_
  rintro e w2 ⟨Aw, nw, cw, Bw, kw, dw, rfl, ow, b2⟩
  obtain rfl : n = nw := by rw [← ow.ps.len, ← H.out.ps.len]
  obtain rfl : k = kw := by rw [← ow.ds.len, ← H.out.ds.len]
  have X2 := Lib.hid (X1.out.on b2)
  have C2 := Lib.hid (below_trans' C1.out b2)
  have O2 := Lib.hid ow.bld
  clear b2 ow X1 C1 q0 q1
  go_wp2_with fail
  refine (specBuildingText_any _ _ _ _ _ _ P D _ O2.out hn2 hk2).mono ?_
  rintro e w3 ⟨tw, rfl, hw3, hz3, b3⟩
  have X3 := Lib.hid (X2.out.on b3)
  have C3 := Lib.hid (below_trans' C2.out b3)
  clear b3 X2 C2 O2
  obtain ⟨q0, q1⟩ := X3.out.cells
  go_wp2_with fail
  refine (toBuilding_any _ _ _ _ _ _ P D _ (H.out.on C3.out) hnk).mono ?_
  rintro e w4 ⟨Ax, nx, cx, Bx, kx, dx, rfl, ox, b4⟩
  obtain rfl : n = nx := by rw [← ox.ps.len, ← H.out.ps.len]
  obtain rfl : k = kx := by rw [← ox.ds.len, ← H.out.ds.len]
  have bA := (Below.refl w4.heap.size w4).alloc (Nat.le_refl _) (.cells #[.slice Ax n cx, .slice Bx k dx] 27)
  have X4 := Lib.hid ((X3.out.on b4).on bA)
  have C4 := Lib.hid (below_trans' (below_trans' C3.out b4) bA)
  have G4 := Lib.hid (Cell2.new w4 27 (.slice Ax n cx) (.slice Bx k dx))
  have O4 := Lib.hid (ox.below bA)
  clear b4 bA ox X3 C3 q0 q1
  go_wp2_with fail
  refine (buildingText_any _ _ _ _ _ _ P D _ O4.out.bld hn2 hk2 (tab_on HTB.out C4.out)).mono ?_
  rintro e w5 ⟨tg, rfl, hw5, _, b5⟩
  obtain rfl : tw = tg := text_eq (hw3.trans hw5.symm)
  clear hw3 hw5
  have X5 := Lib.hid (X4.out.on b5)
  have C5 := Lib.hid (below_trans' C4.out b5)
  have G5 := Lib.hid (G4.out.on b5)
  have O5 := Lib.hid (O4.out.below b5)
  clear b5 X4 C4 G4 O4
  obtain ⟨q0, q1⟩ := X5.out.cells
  obtain ⟨g0, g1⟩ := G5.out.cells
  have d1 : (bdE P D != bdE P D) = false := by simp
  go_wp2
  go_region_held3 (fun w' => w'.cell? ⟨w.heap.size, 0, none⟩ = some (.slice A n c) ∧ w'.cell? ⟨w.heap.size, 1, none⟩ = some (.slice B k d) ∧ w'.cell? ⟨w4.heap.size, 0, none⟩ = some (.slice Ax n cx) ∧ w'.cell? ⟨w4.heap.size, 1, none⟩ = some (.slice Bx k dx))
    (first
      | go_keep
      | (with_reducible exact E1.out)
      | (with_reducible exact E2.out))
    (first
      | (go_at_call 28; refine (toBuilding_any A B n c k d P D _ (H.out.on (below_drewN C5.out 1)) hnk).mono ?_; rintro e wa ⟨Aa, na, ca, Ba, ka, da, rfl, oa, ba⟩; (obtain rfl : n = na := by rw [← oa.ps.len, ← H.out.ps.len]); (obtain rfl : k = ka := by rw [← oa.ds.len, ← H.out.ds.len]); have Xa := Lib.hid (X5.out.on (below_trans' (below_drewN (Below.refl _ _) 1) ba)); have Ga := Lib.hid (G5.out.on (below_trans' (below_drewN (Below.refl _ _) 1) ba)); have Ca := Lib.hid (below_trans' C5.out (below_trans' (below_drewN (Below.refl _ _) 1) ba)); have Oa := Lib.hid oa.bld; have OXa := Lib.hid (O5.out.below (below_trans' (below_drewN (Below.refl _ _) 1) ba)); have E1 := Lib.hid (both_cells Xa.out Ga.out))
      | (go_at_call 29; refine (eqBuilding_true _ _ _ _ _ _ _ _ _ _ P D _ OXa.out.bld Oa.out hn2 hk2).mono ?_; rintro e wb ⟨rfl, bb⟩; have Xb := Lib.hid (Xa.out.on bb); have Gb := Lib.hid (Ga.out.on bb); have Cb := Lib.hid (below_trans' Ca.out bb); have OXb := Lib.hid (OXa.out.below bb); have E2 := Lib.hid (both_cells Xb.out Gb.out)))
  all_goals
    have CE := Cb
    clear q0 q1 g0 g1
    go_wp2
    go_ret
    exact ⟨rfl, CE.out⟩

end Go.Proofs.YtgbicepneonkfaaDoor
