/- The law of TurnTable. -/
import Derived.Test.YtidjnnooeepklaaTabZ
import Derived.Test.YtidjnnooeepklaaTabT
import Derived.Test.YtidjnnooeepklaaLTabA
namespace Go.Proofs.Ytidjnnooeepklaa
open Go.RowKit

theorem size_le {yss : List (List Int)} {b : Nat} (h : ∀ ys ∈ yss, ys.length ≤ b) : ∀ k, k ≤ yss.length → sizeAt yss k ≤ k * b := by
  intro k
  induction k with
  | zero => intro _; simp [sizeAt]
  | succ k ih =>
    intro hk
    have hy : yss[k]? = some yss[k] := List.getElem?_eq_getElem (by omega)
    rw [sizeAt_step hy]
    have h1 := ih (by omega)
    have h2 := h yss[k] (List.getElem_mem _)
    rw [Nat.succ_mul]
    omega
theorem tr_fit (T : List (List Int)) : (trT T).length + sizeL (trT T) ≤ 1048576 := by
  by_cases hz : tE T = 0
  · obtain ⟨⟨h1, h2⟩, ⟨h3, h4⟩, _⟩ := tabB_true (tE_zero hz)
    have hl : (trT T).length ≤ 12 := by unfold trT; rw [if_pos hz, List.length_map, List.length_range]; exact h4
    have hs := size_le (yss := trT T) (b := 10) (fun ys hy => by
      unfold trT at hy
      rw [if_pos hz, List.mem_map] at hy
      obtain ⟨k, _, rfl⟩ := hy
      rw [List.length_map]; exact h2) _ (Nat.le_refl _)
    have h5 : sizeL (trT T) ≤ (trT T).length * 10 := hs
    omega
  · unfold trT; rw [if_neg hz]; simp [sizeL, sizeAt]

set_option maxRecDepth 100000 in
set_option maxHeartbeats 4000000 in
theorem lawTurnTable_any (V : Option Addr) (n c : Nat) (T : List (List Int)) (w : World) (h : Sets w w.heap.size V n T) (hcm : n ≤ 9223372036854775807) :
    Calls Try.prog 11 #[.slice V n c] w fun e w' => e = .returned (.bool true) ∧ Below w.heap.size w w' := by
  have H0 := Lib.hid h
  have HL := Lib.hid h.len
  have d2 : (tE T != tE T) = false := by simp
  clear h
  go_enter Try.func11, Try.ntmps11
  go_wp2_with fail
  refine (szLists_any _ _ _ T 1048576 _ H0.out (by omega) (by omega) hcm).mono ?_
  rintro e w0 ⟨⟨r, rfl, hr⟩, rfl⟩
  rcases hr with rfl | ⟨hr, hr0⟩
  · go_wp2
    go_ret
    exact ⟨rfl, Below.refl _ _⟩
  have hneg : ¬ r < 0 := by omega
  have HN : Hid (n + sizeL T ≤ 1048576) := Lib.hid (by omega)
  clear hr hr0
  go_wp2_with fail
  refine (toLists_any _ _ _ T _ H0.out HN.out).mono ?_
  rintro e w1 ⟨Vy, ny, cy, gsy, rfl, Ry, zy, yy, b1⟩
  obtain rfl : n = ny := (Ry.len.symm.trans HL.out).symm
  have C1 := Lib.hid b1
  have S1 := Lib.hid Ry.sets
  clear b1 Ry
  go_wp2_with fail
  refine (specTurnTable_any _ _ _ T _ S1.out HN.out).mono ?_
  rintro e w2 ⟨Aw, nw, cw, gw, rfl, ow, _, _, b2⟩
  have C2 := Lib.hid (below_trans' C1.out b2)
  have W2 := Lib.hid ow.sets
  have NW := Lib.hid ow.len
  have hnw : nw + sizeL (trT T) ≤ 1048576 := by rw [← NW.out]; exact tr_fit T
  have hnw1 : nw ≤ 1048576 := by omega
  clear b2 C1 S1 ow
  go_wp2_with fail
  refine (toLists_any _ _ _ T _ (H0.out.on C2.out) HN.out).mono ?_
  rintro e w3 ⟨Vx, nx, cx, gsx, rfl, Rx, zx, yx, b3⟩
  obtain rfl : n = nx := (Rx.len.symm.trans HL.out).symm
  have F3 := Lib.hid b3
  have X3 := Lib.hid Rx
  have TX := Lib.hid Rx.top
  have s3 := b3.size
  clear b3 Rx
  go_wp2_with fail
  refine (turnTable_any _ _ _ T _ X3.out.sets HN.out).mono ?_
  rintro e w4 ⟨Ag, ng, cg, gg, rfl, og, _, _, b4⟩
  obtain rfl : nw = ng := by rw [← NW.out, ← og.len]
  have s4 := b4.size
  have F4 := Lib.hid (below_trans' F3.out b4)
  have X4 := Lib.hid (X3.out.on b4)
  have Y4 := Lib.hid og
  have TY := Lib.hid og.top
  clear b4 og F3 X3
  go_wp2_with fail
  refine (eqSets_true _ _ _ _ _ _ _ Y4.out.sets (W2.out.on F4.out) hnw).mono ?_
  rintro e w5 ⟨rfl, jj, hjj⟩
  have b5 : Below w4.heap.size w4 w5 := by rw [hjj]; exact below_drewN (Below.refl _ _) jj
  clear hjj
  have F5 := Lib.hid (below_trans' F4.out b5)
  have X5 := Lib.hid (X4.out.on b5)
  have Y5 := Lib.hid (Y4.out.on b5)
  clear b5 F4 X4 Y4
  go_wp2_with fail
  refine (toLists_any _ _ _ T _ (H0.out.on (below_trans' C2.out F5.out)) HN.out).mono ?_
  rintro e w6 ⟨Vz, nz, cz, gsz, rfl, Rz, zz, yz, b6⟩
  obtain rfl : n = nz := (Rz.len.symm.trans HL.out).symm
  have F6 := Lib.hid (below_trans' F5.out b6)
  have X6 := Lib.hid (X5.out.on b6)
  have Y6 := Lib.hid (Y5.out.on b6)
  have Z6 := Lib.hid Rz.sets
  clear b6 F5 X5 Y5 Rz
  go_wp2_with fail
  refine (eqSets_true _ _ _ _ _ T _ X6.out.sets Z6.out HN.out).mono ?_
  rintro e w7 ⟨rfl, jj, hjj⟩
  have b7 : Below w6.heap.size w6 w7 := by rw [hjj]; exact below_drewN (Below.refl _ _) jj
  clear hjj
  have F7 := Lib.hid (below_trans' F6.out b7)
  have X7 := Lib.hid (X6.out.on b7)
  have Y7 := Lib.hid (Y6.out.on b7)
  clear b7 F6 X6 Y6 Z6
  have HN1 := HN.out
  obtain ⟨rr0, rr1⟩ := rAt_range (k := 1) (yss := T) (i := n) (by omega) (by omega) (by omega) (by rw [HL.out]; exact Nat.le_refl _)
  have hz1 : ¬ (rAt 1 T n < 0) := by omega
  go_wp2_with fail
  refine (markRag_any _ _ _ _ _ _ 1 _ X7.out HN.out (by omega) (by omega)).mono ?_
  rintro e w8 ⟨rfl, ox8, a8⟩
  have A8 := a8 _ TX.out
  have F8 := Lib.hid (F7.out.trans (A8.belowT F7.out.size (Nat.le_refl _)))
  have Y8 := Lib.hid (Y7.out.past A8 (by omega))
  clear a8 A8 ox8 F7 X7 Y7
  go_wp2_with fail
  refine (eqSets_true _ _ _ _ _ _ _ Y8.out.sets (W2.out.on F8.out) hnw).mono ?_
  rintro e w9 ⟨rfl, jj, hjj⟩
  have b9 : Below w8.heap.size w8 w9 := by rw [hjj]; exact below_drewN (Below.refl _ _) jj
  clear hjj
  have F9 := Lib.hid (below_trans' F8.out b9)
  have Y9 := Lib.hid (Y8.out.on b9)
  clear b9 F8 Y8
  go_wp2_with fail
  refine (markRag_any _ _ _ _ _ _ 1 _ Y9.out hnw (by omega) (by omega)).mono ?_
  rintro e w10 ⟨rfl, og9, a9⟩
  have F10 := Lib.hid (F9.out.trans ((a9 _ TY.out).belowT F9.out.size (by omega)))
  have Y10 := Lib.hid og9.sets
  clear a9 og9 F9 Y9
  obtain ⟨rm0, rm1⟩ := rAt_range (k := 1) (yss := trT T) (i := nw) (by omega) (by omega) (by omega) (by rw [NW.out]; exact Nat.le_refl _)
  have hz9 : ¬ (rAt 1 (trT T) nw < 0) := by omega
  go_wp2_with fail
  refine (heldSets_any _ _ _ _ 1 _ Y10.out hnw (by omega) (by omega)).mono ?_
  rintro e w' ⟨rfl, rfl⟩
  have d5 : ((rAt 1 (trT T) nw) != (rAt 1 (trT T) nw)) = false := by simp
  go_wp2_with fail
  refine (toLists_any _ _ _ T _ (H0.out.on (below_trans' C2.out F10.out)) HN.out).mono ?_
  rintro e w11 ⟨Vq, nq, cq, gsq, rfl, Rq, zq, yq, b11⟩
  obtain rfl : n = nq := (Rq.len.symm.trans HL.out).symm
  have F11 := Lib.hid (below_trans' F10.out b11)
  have Y11 := Lib.hid (Y10.out.on b11)
  have X11 := Lib.hid Rq.sets
  clear b11 F10 Y10 Rq
  go_wp2_with fail
  refine (turnTable_any _ _ _ T _ X11.out HN.out).mono ?_
  rintro e w12 ⟨Ah, nh, ch, gh, rfl, oh, _, _, b12⟩
  obtain rfl : nw = nh := by rw [← NW.out, ← oh.len]
  have F12 := Lib.hid (below_trans' F11.out b12)
  have Y12 := Lib.hid (Y11.out.on b12)
  have Z12 := Lib.hid oh.sets
  clear b12 F11 Y11 oh X11
  go_wp2_with fail
  refine (eqSets_true _ _ _ _ _ _ _ Z12.out (W2.out.on F12.out) hnw).mono ?_
  rintro e w13 ⟨rfl, jj, hjj⟩
  have b13 : Below w12.heap.size w12 w13 := by rw [hjj]; exact below_drewN (Below.refl _ _) jj
  clear hjj
  have C13 := Lib.hid (below_trans' C2.out (below_trans' F12.out b13))
  have Y13 := Lib.hid (Y12.out.on b13)
  clear b13 F12 Y12 Z12
  go_wp2_with fail
  refine (heldSets_any _ _ _ _ 1 _ Y13.out hnw (by omega) (by omega)).mono ?_
  rintro e w' ⟨rfl, rfl⟩
  go_wp2
  go_ret
  exact ⟨rfl, C13.out⟩

end Go.Proofs.Ytidjnnooeepklaa
