/- The law of IsTable. -/
import Derived.Test.YtidjnnooeepklaaTabP
namespace Go.Proofs.Ytidjnnooeepklaa
open Go.RowKit

theorem Own.acrossT {w w' : World} {lo hi l r n : Nat} {A : Option Addr} {xs : List Int} (h : Own w l r A n xs) (ha : Apart lo hi w w') (hr : r ≤ lo ∨ hi ≤ l) : Own w' l r A n xs :=
  ⟨h.1, Nat.le_trans h.2.1 ha.size, fun hn => by
    obtain ⟨ad, e, h1, h2, hc⟩ := h.2.2 hn
    refine ⟨ad, e, h1, h2, fun j v hv => ?_⟩
    have hb := ha.block (ad.add j).block (by rw [block_of_add]; have := h.2.1; omega) (by rw [block_of_add]; omega)
    rw [World.frozen?_of_block (w := w) hb, World.cell?_of_block (w := w) hb]
    exact hc j v hv⟩
theorem Apart.belowT {lo lo' hi : Nat} {w w' : World} (h : Apart lo hi w w') (h1 : lo' ≤ w.heap.size) (h2 : lo' ≤ lo) : Below lo' w w' := ⟨h.os, h.tape, h.output, h.size, fun k hk => h.block k (by omega) (.inl (by omega))⟩

set_option maxRecDepth 100000 in
set_option maxHeartbeats 4000000 in
theorem lawIsTable_any (V : Option Addr) (n c : Nat) (T : List (List Int)) (w : World) (h : Sets w w.heap.size V n T) (hcm : n ≤ 9223372036854775807) :
    Calls Try.prog 5 #[.slice V n c] w fun e w' => e = .returned (.bool true) ∧ Below w.heap.size w w' := by
  have H0 := Lib.hid h
  have HL := Lib.hid h.len
  have d1 : (tabB T != tabB T) = false := by simp
  clear h
  go_enter Try.func5, Try.ntmps5
  go_wp2_with fail
  refine (szLists_any _ _ _ T 1048576 _ H0.out (by omega) (by omega) hcm).mono ?_
  rintro e w0 ⟨⟨r, rfl, hr⟩, rfl⟩
  rcases hr with rfl | ⟨hr, hr0⟩
  · go_wp2
    go_ret
    exact ⟨rfl, Below.refl _ _⟩
  have hneg : ¬ r < 0 := by omega
  have HN : Hid (n + sizeL T ≤ 1048576) := Lib.hid (by omega)
  clear hr hr0
  go_wp2_with fail
  refine (toLists_any _ _ _ T _ H0.out HN.out).mono ?_
  rintro e w1 ⟨Vy, ny, cy, gsy, rfl, Ry, zy, yy, b1⟩
  obtain rfl : n = ny := (Ry.len.symm.trans HL.out).symm
  have C1 := Lib.hid b1
  have S1 := Lib.hid Ry.sets
  clear b1 Ry
  go_wp2_with fail
  refine (specIsTable_any _ _ _ T _ S1.out HN.out).mono ?_
  rintro e w2 ⟨rfl, b2⟩
  have C2 := Lib.hid (below_trans' C1.out b2)
  clear b2 C1 S1
  go_wp2_with fail
  refine (toLists_any _ _ _ T _ (H0.out.on C2.out) HN.out).mono ?_
  rintro e w3 ⟨Vx, nx, cx, gsx, rfl, Rx, zx, yx, b3⟩
  obtain rfl : n = nx := (Rx.len.symm.trans HL.out).symm
  have C3 := Lib.hid (below_trans' C2.out b3)
  have S3 := Lib.hid Rx.sets
  clear b3 Rx C2
  go_wp2_with fail
  refine (isTable_any _ _ _ T _ S3.out HN.out).mono ?_
  rintro e w4 ⟨rfl, b4⟩
  have C4 := Lib.hid (below_trans' C3.out b4)
  have S4 := Lib.hid (S3.out.on b4)
  clear b4 C3 S3
  go_wp2_with fail
  refine (toLists_any _ _ _ T _ (H0.out.on C4.out) HN.out).mono ?_
  rintro e w5 ⟨Vz, nz, cz, gsz, rfl, Rz, zz, yz, b5⟩
  obtain rfl : n = nz := (Rz.len.symm.trans HL.out).symm
  have C5 := Lib.hid (below_trans' C4.out b5)
  have S5 := Lib.hid Rz.sets
  have T5 := Lib.hid (S4.out.on b5)
  clear b5 Rz C4 S4
  go_wp2_with fail
  refine (eqSets_true _ _ _ _ _ T _ T5.out S5.out HN.out).mono ?_
  rintro e w6 ⟨rfl, jj, hjj⟩
  have b6 : Below w5.heap.size w5 w6 := by rw [hjj]; exact below_drewN (Below.refl _ _) jj
  clear hjj
  have C6 := Lib.hid (below_trans' C5.out b6)
  clear b6
  go_wp2
  go_ret
  exact ⟨rfl, C6.out⟩

end Go.Proofs.Ytidjnnooeepklaa
