/- The law of LeastKeysFor. -/
import Derived.Test.YtidjnnooeepklaaTabO
import Derived.Test.YtidjnnooeepklaaTabJ
import Derived.Test.YtidjnnooeepklaaLTabA
namespace Go.Proofs.Ytidjnnooeepklaa
open Go.RowKit

set_option maxRecDepth 100000 in
set_option maxHeartbeats 4000000 in
theorem lawLeastKeysFor_any (V : Option Addr) (n c : Nat) (T : List (List Int)) (A : Option Addr) (q cc : Nat) (ds : List Int) (w : World) (h : Sets w w.heap.size V n T) (hcm : n ≤ 9223372036854775807) (hx : Ints w w.heap.size A q ds) :
    Calls Try.prog 10 #[.slice V n c, .slice A q cc] w fun e w' => e = .returned (.bool true) ∧ Below w.heap.size w w' := by
  have H0 := Lib.hid h
  have HL := Lib.hid h.len
  have X0 := Lib.hid hx
  have DL := Lib.hid hx.len
  have d2 : (lkE T ds != lkE T ds) = false := by simp
  clear h hx
  by_cases hq : 1048576 < q
  · have hq2 : (1048576 : Int) < (q : Int) := by omega
    go_enter Try.func10, Try.ntmps10
    go_wp2
    go_ret
    exact ⟨rfl, Below.refl _ _⟩
  have hqn : q ≤ 1048576 := by omega
  have hq2 : ¬ (1048576 : Int) < (q : Int) := by omega
  clear hq
  go_enter Try.func10, Try.ntmps10
  go_wp2_with fail
  refine (szLists_any _ _ _ T 1048576 _ H0.out (by omega) (by omega) hcm).mono ?_
  rintro e w0 ⟨⟨r, rfl, hr⟩, rfl⟩
  rcases hr with rfl | ⟨hr, hr0⟩
  · go_wp2
    go_ret
    exact ⟨rfl, Below.refl _ _⟩
  have hneg : ¬ r < 0 := by omega
  have HN : Hid (n + sizeL T ≤ 1048576) := Lib.hid (by omega)
  clear hr hr0
  go_wp2_with fail
  refine (toLists_any _ _ _ T _ H0.out HN.out).mono ?_
  rintro e w1 ⟨Vy, ny, cy, gsy, rfl, Ry, zy, yy, b1⟩
  obtain rfl : n = ny := (Ry.len.symm.trans HL.out).symm
  have C1 := Lib.hid b1
  have S1 := Lib.hid Ry.sets
  clear b1 Ry
  go_wp2_with fail
  refine (toInt64S_any _ _ _ ds _ (X0.out.on C1.out) hqn).mono ?_
  rintro e v1 ⟨g1, rfl, hg1, r1, b1⟩
  have O1 := Lib.hid (Own.of_row r1 DL.out hg1).ints
  have S1' := Lib.hid (S1.out.on b1)
  have C1' := Lib.hid (below_trans' C1.out b1)
  clear b1 r1 hg1 C1 S1
  go_wp2_with fail
  refine (specLeastKeysFor_any _ _ _ T _ _ _ ds _ S1'.out HN.out O1.out hqn).mono ?_
  rintro e w2 ⟨Aw, nw, cw, rfl, ow, hnw, b2⟩
  have C2 := Lib.hid (below_trans' C1'.out b2)
  have W2 := Lib.hid ow
  have NW := Lib.hid ow.len
  clear b2 C1' S1' O1 ow
  go_wp2_with fail
  refine (toLists_any _ _ _ T _ (H0.out.on C2.out) HN.out).mono ?_
  rintro e w3 ⟨Vx, nx, cx, gsx, rfl, Rx, zx, yx, b3⟩
  obtain rfl : n = nx := (Rx.len.symm.trans HL.out).symm
  have F3 := Lib.hid b3
  have X3 := Lib.hid Rx
  have TX := Lib.hid Rx.top
  have s3 := b3.size
  clear b3 Rx
  go_wp2_with fail
  refine (toInt64S_any _ _ _ ds _ (X0.out.on (below_trans' C2.out F3.out)) hqn).mono ?_
  rintro e v3 ⟨g3, rfl, hg3, r3, b3⟩
  have D3 := Lib.hid (Own.of_row r3 DL.out hg3)
  have s33 := b3.size
  have G3 := Lib.hid (below_trans' F3.out b3)
  have X33 := Lib.hid (X3.out.on b3)
  clear b3 r3 hg3 F3 X3
  go_wp2_with fail
  refine (leastKeysFor_any _ _ _ T _ _ _ ds _ X33.out.sets HN.out D3.out.ints hqn).mono ?_
  rintro e w4 ⟨Ag, ng, cg, rfl, og, hng, _, _, b4⟩
  obtain rfl : nw = ng := by rw [← NW.out, ← og.len]
  have s4 := b4.size
  have F4 := Lib.hid (below_trans' G3.out b4)
  have X4 := Lib.hid (X33.out.on b4)
  have D4 := Lib.hid (D3.out.below b4)
  have Y4 := Lib.hid og
  clear b4 og G3 X33 D3
  go_wp2_with fail
  refine (eqInts_true _ _ _ _ _ _ _ Y4.out.ints (W2.out.on F4.out) hnw).mono ?_
  rintro e w5 ⟨rfl, b5⟩
  have F5 := Lib.hid (below_trans' F4.out b5)
  have X5 := Lib.hid (X4.out.on b5)
  have D5 := Lib.hid (D4.out.below b5)
  have Y5 := Lib.hid (Y4.out.below b5)
  clear b5 F4 X4 Y4 D4
  go_wp2_with fail
  refine (toLists_any _ _ _ T _ (H0.out.on (below_trans' C2.out F5.out)) HN.out).mono ?_
  rintro e w6 ⟨Vz, nz, cz, gsz, rfl, Rz, zz, yz, b6⟩
  obtain rfl : n = nz := (Rz.len.symm.trans HL.out).symm
  have F6 := Lib.hid (below_trans' F5.out b6)
  have X6 := Lib.hid (X5.out.on b6)
  have D6 := Lib.hid (D5.out.below b6)
  have Y6 := Lib.hid (Y5.out.below b6)
  have Z6 := Lib.hid Rz.sets
  clear b6 F5 X5 Y5 D5 Rz
  go_wp2_with fail
  refine (eqSets_true _ _ _ _ _ T _ X6.out.sets Z6.out HN.out).mono ?_
  rintro e w7 ⟨rfl, jj, hjj⟩
  have b7 : Below w6.heap.size w6 w7 := by rw [hjj]; exact below_drewN (Below.refl _ _) jj
  clear hjj
  have F7 := Lib.hid (below_trans' F6.out b7)
  have X7 := Lib.hid (X6.out.on b7)
  have D7 := Lib.hid (D6.out.below b7)
  have Y7 := Lib.hid (Y6.out.below b7)
  clear b7 F6 X6 Y6 D6 Z6
  go_wp2_with fail
  refine (toInt64S_any _ _ _ ds _ (X0.out.on (below_trans' C2.out F7.out)) hqn).mono ?_
  rintro e u7 ⟨g7, rfl, hg7, r7, b7⟩
  have O7 := Lib.hid (Own.of_row r7 DL.out hg7).ints
  have F71 := Lib.hid (below_trans' F7.out b7)
  have X71 := Lib.hid (X7.out.on b7)
  have D71 := Lib.hid (D7.out.below b7)
  have Y71 := Lib.hid (Y7.out.below b7)
  clear b7 r7 hg7 F7 X7 Y7 D7
  go_wp2_with fail
  refine (eqInts_true _ _ _ _ _ _ _ D71.out.ints O7.out hqn).mono ?_
  rintro e u8 ⟨rfl, b7⟩
  have F7 := Lib.hid (below_trans' F71.out b7)
  have X7 := Lib.hid (X71.out.on b7)
  have D7 := Lib.hid (D71.out.below b7)
  have Y7 := Lib.hid (Y71.out.below b7)
  clear b7 F71 X71 Y71 D71 O7
  have HN1 := HN.out
  obtain ⟨rr0, rr1⟩ := rAt_range (k := 1) (yss := T) (i := n) (by omega) (by omega) (by omega) (by rw [HL.out]; exact Nat.le_refl _)
  go_wp2_with fail
  refine (markRag_any _ _ _ _ _ _ 1 _ X7.out HN.out (by omega) (by omega)).mono ?_
  rintro e w8 ⟨rfl, ox8, a8⟩
  have A8 := a8 _ TX.out
  have F8 := Lib.hid (F7.out.trans (A8.belowT F7.out.size (Nat.le_refl _)))
  have Y8 := Lib.hid (Y7.out.acrossT A8 (.inr (by omega)))
  have D8 := Lib.hid (D7.out.acrossT A8 (.inr (Nat.le_refl _)))
  clear a8 A8 ox8 F7 X7 Y7 D7
  go_wp2_with fail
  refine (markInts_any _ _ _ _ _ _ _ _ D8.out hqn (by omega) (by omega)).mono ?_
  rintro e v8 ⟨rfl, _, row, hgr, hrow⟩
  have F81 := Lib.hid (below_grown F8.out hgr (fun g e => by have := (hrow g e).1; omega))
  have Y81 := Lib.hid (Own.apart Y8.out hgr (fun g e => by have := (hrow g e).2; omega))
  have hz1 : ¬ (rAt 1 T n + (q : Int) < 0) := by omega
  clear hgr hrow F8 Y8 D8
  go_wp2_with fail
  refine (eqInts_true _ _ _ _ _ _ _ Y81.out.ints (W2.out.on F81.out) hnw).mono ?_
  rintro e w9 ⟨rfl, b9⟩
  have F9 := Lib.hid (below_trans' F81.out b9)
  have Y9 := Lib.hid (Y81.out.below b9)
  clear b9 F81 Y81
  go_wp2_with fail
  refine (markInts_any _ _ _ _ 1 _ _ _ Y9.out hnw (by omega) (by omega)).mono ?_
  rintro e w10 ⟨rfl, og9, row, hgr, hrow⟩
  have F10 := Lib.hid (below_grown F9.out hgr (fun g e => by have := (hrow g e).1; omega))
  have Y10 := Lib.hid og9
  clear hgr hrow og9 F9 Y9
  go_wp2_with fail
  refine (heldInts_any _ _ _ 1 _ Y10.out.ints hnw (by omega) (by omega)).mono ?_
  rintro e w' ⟨rfl, rfl⟩
  have d5 : ((1 + (nw : Int)) != (1 + (nw : Int))) = false := by simp
  go_wp2_with fail
  refine (toLists_any _ _ _ T _ (H0.out.on (below_trans' C2.out F10.out)) HN.out).mono ?_
  rintro e w11 ⟨Vq, nq, cq, gsq, rfl, Rq, zq, yq, b11⟩
  obtain rfl : n = nq := (Rq.len.symm.trans HL.out).symm
  have F11 := Lib.hid (below_trans' F10.out b11)
  have Y11 := Lib.hid (Y10.out.below b11)
  have X11 := Lib.hid Rq.sets
  clear b11 F10 Y10 Rq
  go_wp2_with fail
  refine (toInt64S_any _ _ _ ds _ (X0.out.on (below_trans' C2.out F11.out)) hqn).mono ?_
  rintro e u11 ⟨g11, rfl, hg11, r11, b11⟩
  have O11 := Lib.hid (Own.of_row r11 DL.out hg11).ints
  have F111 := Lib.hid (below_trans' F11.out b11)
  have Y111 := Lib.hid (Y11.out.below b11)
  have X111 := Lib.hid (X11.out.on b11)
  clear b11 r11 hg11 F11 Y11 X11
  go_wp2_with fail
  refine (leastKeysFor_any _ _ _ T _ _ _ ds _ X111.out HN.out O11.out hqn).mono ?_
  rintro e w12 ⟨Ah, nh, ch, rfl, oh, hnh, _, _, b12⟩
  obtain rfl : nw = nh := by rw [← NW.out, ← oh.len]
  have F12 := Lib.hid (below_trans' F111.out b12)
  have Y12 := Lib.hid (Y111.out.below b12)
  have Z12 := Lib.hid oh.ints
  clear b12 F111 Y111 oh X111 O11
  go_wp2_with fail
  refine (eqInts_true _ _ _ _ _ _ _ Z12.out (W2.out.on F12.out) hnw).mono ?_
  rintro e w13 ⟨rfl, b13⟩
  have C13 := Lib.hid (below_trans' C2.out (below_trans' F12.out b13))
  have Y13 := Lib.hid (Y12.out.below b13)
  clear b13 F12 Y12 Z12
  go_wp2_with fail
  refine (heldInts_any _ _ _ 1 _ Y13.out.ints hnw (by omega) (by omega)).mono ?_
  rintro e w' ⟨rfl, rfl⟩
  go_wp2
  go_ret
  exact ⟨rfl, C13.out⟩

end Go.Proofs.Ytidjnnooeepklaa
