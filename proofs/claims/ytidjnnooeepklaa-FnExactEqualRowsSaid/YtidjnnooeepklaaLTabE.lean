/- The law of EqualRows. -/
import Derived.Test.YtidjnnooeepklaaTabY
import Derived.Test.YtidjnnooeepklaaTabE
import Derived.Test.YtidjnnooeepklaaLTabA
namespace Go.Proofs.Ytidjnnooeepklaa
open Go.RowKit

set_option maxRecDepth 100000 in
set_option maxHeartbeats 4000000 in
theorem lawEqualRows_any (V : Option Addr) (n c : Nat) (T : List (List Int)) (w : World) (h : Sets w w.heap.size V n T) (hcm : n ≤ 9223372036854775807) :
    Calls Try.prog 8 #[.slice V n c] w fun e w' => e = .returned (.bool true) ∧ Below w.heap.size w w' := by
  have H0 := Lib.hid h
  have HL := Lib.hid h.len
  have d2 : (tE T != tE T) = false := by simp
  clear h
  go_enter Try.func8, Try.ntmps8
  go_wp2_with fail
  refine (szLists_any _ _ _ T 1048576 _ H0.out (by omega) (by omega) hcm).mono ?_
  rintro e w0 ⟨⟨r, rfl, hr⟩, rfl⟩
  rcases hr with rfl | ⟨hr, hr0⟩
  · go_wp2
    go_ret
    exact ⟨rfl, Below.refl _ _⟩
  have hneg : ¬ r < 0 := by omega
  have HN : Hid (n + sizeL T ≤ 1048576) := Lib.hid (by omega)
  clear hr hr0
  go_wp2_with fail
  refine (toLists_any _ _ _ T _ H0.out HN.out).mono ?_
  rintro e w1 ⟨Vy, ny, cy, gsy, rfl, Ry, zy, yy, b1⟩
  obtain rfl : n = ny := (Ry.len.symm.trans HL.out).symm
  have C1 := Lib.hid b1
  have S1 := Lib.hid Ry.sets
  clear b1 Ry
  go_wp2_with fail
  refine (specEqualRows_any _ _ _ T _ S1.out HN.out).mono ?_
  rintro e w2 ⟨Aw, nw, cw, rfl, ow, hnw, _, _, b2⟩
  have C2 := Lib.hid (below_trans' C1.out b2)
  have W2 := Lib.hid ow.ints
  have NW := Lib.hid ow.len
  clear b2 C1 S1 ow
  go_wp2_with fail
  refine (toLists_any _ _ _ T _ (H0.out.on C2.out) HN.out).mono ?_
  rintro e w3 ⟨Vx, nx, cx, gsx, rfl, Rx, zx, yx, b3⟩
  obtain rfl : n = nx := (Rx.len.symm.trans HL.out).symm
  have F3 := Lib.hid b3
  have X3 := Lib.hid Rx
  have TX := Lib.hid Rx.top
  have s3 := b3.size
  clear b3 Rx
  go_wp2_with fail
  refine (equalRows_any _ _ _ T _ X3.out.sets HN.out).mono ?_
  rintro e w4 ⟨Ag, ng, cg, rfl, og, hng, _, _, b4⟩
  obtain rfl : nw = ng := by rw [← NW.out, ← og.len]
  have s4 := b4.size
  have F4 := Lib.hid (below_trans' F3.out b4)
  have X4 := Lib.hid (X3.out.on b4)
  have Y4 := Lib.hid og
  clear b4 og F3 X3
  go_wp2_with fail
  refine (eqInts_true _ _ _ _ _ _ _ Y4.out.ints (W2.out.on F4.out) hnw).mono ?_
  rintro e w5 ⟨rfl, b5⟩
  have F5 := Lib.hid (below_trans' F4.out b5)
  have X5 := Lib.hid (X4.out.on b5)
  have Y5 := Lib.hid (Y4.out.below b5)
  clear b5 F4 X4 Y4
  go_wp2_with fail
  refine (toLists_any _ _ _ T _ (H0.out.on (below_trans' C2.out F5.out)) HN.out).mono ?_
  rintro e w6 ⟨Vz, nz, cz, gsz, rfl, Rz, zz, yz, b6⟩
  obtain rfl : n = nz := (Rz.len.symm.trans HL.out).symm
  have F6 := Lib.hid (below_trans' F5.out b6)
  have X6 := Lib.hid (X5.out.on b6)
  have Y6 := Lib.hid (Y5.out.below b6)
  have Z6 := Lib.hid Rz.sets
  clear b6 F5 X5 Y5 Rz
  go_wp2_with fail
  refine (eqSets_true _ _ _ _ _ T _ X6.out.sets Z6.out HN.out).mono ?_
  rintro e w7 ⟨rfl, jj, hjj⟩
  have b7 : Below w6.heap.size w6 w7 := by rw [hjj]; exact below_drewN (Below.refl _ _) jj
  clear hjj
  have F7 := Lib.hid (below_trans' F6.out b7)
  have X7 := Lib.hid (X6.out.on b7)
  have Y7 := Lib.hid (Y6.out.below b7)
  clear b7 F6 X6 Y6 Z6
  have HN1 := HN.out
  obtain ⟨rr0, rr1⟩ := rAt_range (k := 1) (yss := T) (i := n) (by omega) (by omega) (by omega) (by rw [HL.out]; exact Nat.le_refl _)
  have hz1 : ¬ (rAt 1 T n < 0) := by omega
  go_wp2_with fail
  refine (markRag_any _ _ _ _ _ _ 1 _ X7.out HN.out (by omega) (by omega)).mono ?_
  rintro e w8 ⟨rfl, ox8, a8⟩
  have A8 := a8 _ TX.out
  have F8 := Lib.hid (F7.out.trans (A8.belowT F7.out.size (Nat.le_refl _)))
  have Y8 := Lib.hid (Y7.out.acrossT A8 (.inr (Nat.le_refl _)))
  clear a8 A8 ox8 F7 X7 Y7
  go_wp2_with fail
  refine (eqInts_true _ _ _ _ _ _ _ Y8.out.ints (W2.out.on F8.out) hnw).mono ?_
  rintro e w9 ⟨rfl, b9⟩
  have F9 := Lib.hid (below_trans' F8.out b9)
  have Y9 := Lib.hid (Y8.out.below b9)
  clear b9 F8 Y8
  go_wp2_with fail
  refine (markInts_any _ _ _ _ 1 _ _ _ Y9.out hnw (by omega) (by omega)).mono ?_
  rintro e w10 ⟨rfl, og9, row, hgr, hrow⟩
  have F10 := Lib.hid (below_grown F9.out hgr (fun g e => by have := (hrow g e).1; omega))
  have Y10 := Lib.hid og9
  clear hgr hrow og9 F9 Y9
  go_wp2_with fail
  refine (heldInts_any _ _ _ 1 _ Y10.out.ints hnw (by omega) (by omega)).mono ?_
  rintro e w' ⟨rfl, rfl⟩
  have d5 : ((1 + (nw : Int)) != (1 + (nw : Int))) = false := by simp
  go_wp2_with fail
  refine (toLists_any _ _ _ T _ (H0.out.on (below_trans' C2.out F10.out)) HN.out).mono ?_
  rintro e w11 ⟨Vq, nq, cq, gsq, rfl, Rq, zq, yq, b11⟩
  obtain rfl : n = nq := (Rq.len.symm.trans HL.out).symm
  have F11 := Lib.hid (below_trans' F10.out b11)
  have Y11 := Lib.hid (Y10.out.below b11)
  have X11 := Lib.hid Rq.sets
  clear b11 F10 Y10 Rq
  go_wp2_with fail
  refine (equalRows_any _ _ _ T _ X11.out HN.out).mono ?_
  rintro e w12 ⟨Ah, nh, ch, rfl, oh, hnh, _, _, b12⟩
  obtain rfl : nw = nh := by rw [← NW.out, ← oh.len]
  have F12 := Lib.hid (below_trans' F11.out b12)
  have Y12 := Lib.hid (Y11.out.below b12)
  have Z12 := Lib.hid oh.ints
  clear b12 F11 Y11 oh X11
  go_wp2_with fail
  refine (eqInts_true _ _ _ _ _ _ _ Z12.out (W2.out.on F12.out) hnw).mono ?_
  rintro e w13 ⟨rfl, b13⟩
  have C13 := Lib.hid (below_trans' C2.out (below_trans' F12.out b13))
  have Y13 := Lib.hid (Y12.out.below b13)
  clear b13 F12 Y12 Z12
  go_wp2_with fail
  refine (heldInts_any _ _ _ 1 _ Y13.out.ints hnw (by omega) (by omega)).mono ?_
  rintro e w' ⟨rfl, rfl⟩
  go_wp2
  go_ret
  exact ⟨rfl, C13.out⟩

end Go.Proofs.Ytidjnnooeepklaa
