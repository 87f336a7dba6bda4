/- The law of FreePlaces. -/
import Derived.Test.YtbfnffecmglgfaaLawKit
import Derived.Test.YtbfnffecmglgfaaFreeP
import Derived.Test.YtbfnffecmglgfaaSFreeP
import Derived.Deep.RegionHeld3
namespace Go.Proofs.Ytbfnffecmglgfaa
open Go Go.RowKit

theorem LArg.under {w0 W W' : World} {m : Mk} {V : Option Addr} {n c B : Nat} {yss : List (List Int)} (h : LArg w0 W m V n c yss) (hs : Sets w0 w0.heap.size V n yss) (bl : Below B W W') (hB : w0.heap.size + 1 < B) : LArg w0 W' m V n c yss :=
  have c := h.below.trans (bl.mono (by omega))
  ⟨h.box.below bl (by omega), h.cell.below bl hB, hs.on c, c⟩
theorem Own.onB {w w' : World} {lo hi n : Nat} {A : Option Addr} {xs : List Int} (h : Own w lo hi A n xs) (hb : Below w.heap.size w w') : Own w' lo hi A n xs := h.below hb
theorem Own.drewB {w : World} {lo hi n : Nat} {A : Option Addr} {xs : List Int} (h : Own w lo hi A n xs) (k : Nat) : Own (w.drewN k) lo hi A n xs := h.below (below_drewN (Below.refl _ _) k)
theorem Own.pastB {w w' : World} {lo hi lo' hi' n : Nat} {A : Option Addr} {xs : List Int} (h : Own w lo' hi' A n xs) (ha : Apart lo hi w w') (hh : hi ≤ lo') : Own w' lo' hi' A n xs :=
  ⟨h.1, Nat.le_trans h.2.1 ha.size, fun hn => by
    obtain ⟨ad, e, h1, h2, hc⟩ := h.2.2 hn
    refine ⟨ad, e, h1, h2, fun j v hv => ?_⟩
    have hb := ha.block (ad.add j).block (by rw [block_of_add]; have := h.2.1; omega) (.inr (by rw [block_of_add]; omega))
    rw [World.frozen?_of_block (w := w) hb, World.cell?_of_block (w := w) hb]
    exact hc j v hv⟩

set_option maxRecDepth 100000 in
set_option maxHeartbeats 8000000 in
theorem lawFreePlaces_any (m : Mk) (V : Option Addr) (n c : Nat) (yss : List (List Int)) (ch t : Int) (w : World) (h : Sets w w.heap.size V n yss) (hcm : n ≤ 9223372036854775807) :
    Calls Try.prog 16 #[.agg #[.int .i64 m.C, .int .i64 m.D, .int .i64 m.S, .int .i64 m.M, .int .i64 m.L], .agg #[.slice V n c], .int .i64 ch, .int .i64 t] w fun e w' => e = .returned (.bool true) ∧ Below w.heap.size w w' := by
  have K0 := Lib.hid (LArg.new w m V n c yss h)
  have HL := Lib.hid h.len
  have H := Lib.hid h
  obtain ⟨q0, q1, q2, q3, q4, ck⟩ := K0.out.cells
  clear h
  go_enter Try.func16, Try.ntmps16
  go_wp2_with fail
  refine (szLock_any _ _ _ yss 1048576 _ K0.out.sets (by omega) (by omega) hcm).mono ?_
  rintro e w1 ⟨⟨r, rfl, hr⟩, b1⟩
  have K1 := Lib.hid (K0.out.on b1)
  clear q0 q1 q2 q3 q4 ck
  rcases hr with rfl | ⟨hr, hr0⟩
  · have C1 := K1.out.below
    clear K0 K1 b1
    go_wp2
    go_ret
    exact ⟨rfl, C1⟩
  have hneg : ¬ r < 0 := by omega
  have HN : Hid (n + sizeL yss ≤ 1048576) := Lib.hid (by omega)
  have hn1 : n ≤ 1048576 := by omega
  have hzw := K1.out.cell.lt
  obtain ⟨q0, q1, q2, q3, q4, ck⟩ := K1.out.cells
  clear hr hr0 b1 K0
  go_wp2
  go_region_held3 (fun w' => w'.cell? ⟨w.heap.size, 0, none⟩ = some (.int .i64 m.C) ∧ w'.cell? ⟨w.heap.size, 1, none⟩ = some (.int .i64 m.D) ∧ w'.cell? ⟨w.heap.size, 2, none⟩ = some (.int .i64 m.S) ∧ w'.cell? ⟨w.heap.size, 3, none⟩ = some (.int .i64 m.M) ∧ w'.cell? ⟨w.heap.size, 4, none⟩ = some (.int .i64 m.L) ∧ w'.cell? ⟨w.heap.size + 1, 0, none⟩ = some (.slice V n c))
    (first
      | go_keep
      | with_reducible exact K2.out.cells
      | with_reducible exact K3.out.cells
      | with_reducible exact K4.out.cells)
    (first
      | (go_at_call 74; refine (toMaker_any m _).mono ?_; rintro e w2 ⟨rfl, b2⟩; have K2 := Lib.hid ((K1.out.drewN 1).on b2))
      | (go_at_call 82; refine (toLock_any _ _ _ yss _ K2.out.sets HN.out).mono ?_; rintro e w3 ⟨V3, n3, c3, gs3, rfl, R3, z3, y3, b3⟩; have K3 := Lib.hid (K2.out.on b3); have S3 := Lib.hid R3.sets; have N3 := Lib.hid (R3.len.symm.trans HL.out))
      | (go_at_call 66; refine (specFreePlaces_any m _ _ _ yss ch t _ S3.out (by have := HN.out; have := N3.out; omega)).mono ?_; rintro e w4 ⟨V4, n4, c4, rfl, S4', z4, y4, m4, b4⟩; have K4 := Lib.hid (K3.out.on b4); have S4 := Lib.hid S4'.ints))
  all_goals
    clear q0 q1 q2 q3 q4 ck K1 K2 K3 R3 S3 N3 b2 b3 b4 z3 y3 S4'
    have HL4 := Lib.hid S4.out.len
    have hz4 := K4.out.cell.lt
    have D4 := Lib.hid (Below.refl w4.heap.size w4)
    obtain ⟨q0, q1, q2, q3, q4, ck⟩ := K4.out.cells
    go_wp2_with fail
    refine (toLock_any _ _ _ yss _ K4.out.sets HN.out).mono ?_
    rintro e w5 ⟨V5, n5, c5, gs5, rfl, R5', z5, y5, b5⟩
    have K5 := Lib.hid (K4.out.on b5)
    have D5 := Lib.hid (below_trans' D4.out b5)
    have R5 := Lib.hid R5'
    have TX := Lib.hid R5'.top
    have hz5 := b5.size
    obtain rfl : n5 = n := R5'.len.symm.trans HL.out
    have o5 := (Below.refl w5.heap.size w5).alloc (Nat.le_refl _) (.cells #[.slice V5 n5 c5] 30)
    have R6 := Lib.hid (R5.out.on o5)
    have X6 := Lib.hid (Cell1.new w5 30 (.slice V5 n5 c5))
    have K6 := Lib.hid (K5.out.on o5)
    have D6 := Lib.hid (below_trans' D5.out o5)
    clear q0 q1 q2 q3 q4 ck K4 K5 D4 D5 R5 R5' b5
    obtain ⟨q0, q1, q2, q3, q4, ck⟩ := K6.out.cells
    have cx := X6.out.cell
    go_wp2
    go_region_held3 (fun w' => w'.cell? ⟨w.heap.size, 0, none⟩ = some (.int .i64 m.C) ∧ w'.cell? ⟨w.heap.size, 1, none⟩ = some (.int .i64 m.D) ∧ w'.cell? ⟨w.heap.size, 2, none⟩ = some (.int .i64 m.S) ∧ w'.cell? ⟨w.heap.size, 3, none⟩ = some (.int .i64 m.M) ∧ w'.cell? ⟨w.heap.size, 4, none⟩ = some (.int .i64 m.L) ∧ w'.cell? ⟨w5.heap.size, 0, none⟩ = some (.slice V5 n5 c5))
      (first
        | go_keep
        | with_reducible exact boxed_and K7.out.box X7.out.cell
        | with_reducible exact boxed_and K8.out.box X8.out.cell)
      (first
        | (go_at_call 74; refine (toMaker_any m _).mono ?_; rintro e w7 ⟨rfl, b7⟩; have K7 := Lib.hid ((K6.out.drewN 1).on b7); have D7 := Lib.hid (below_trans' (below_drewN D6.out 1) b7); have R7 := Lib.hid ((R6.out.drewN 1).on b7); have X7 := Lib.hid ((X6.out.drewN 1).on b7); skip)
        | (go_at_call 65; refine (freePlaces_any m _ _ _ yss ch t _ R7.out.sets HN.out).mono ?_; rintro e w8 ⟨V8, n8, c8, rfl, G8', z8, y8, m8, b8⟩; have K8 := Lib.hid (K7.out.on b8); have D8 := Lib.hid (below_trans' D7.out b8); have R8 := Lib.hid (R7.out.on b8); have X8 := Lib.hid (X7.out.on b8); have G8 := Lib.hid G8'; have B8 := Lib.hid b8))
    all_goals
      obtain rfl : n8 = n4 := G8'.len.symm.trans HL4.out
      have hx7 := X7.out.lt
      have hk7 := K7.out.cell.lt
      clear q0 q1 q2 q3 q4 ck cx K6 K7 D6 D7 R6 R7 X6 X7 b7 b8
      have hz7 := B8.out.size
      have hx8 := X8.out.lt
      clear G8'
      have d1 : (fpE m yss ch t != fpE m yss ch t) = false := by simp
      have HD := Lib.hid d1
      go_wp2_with fail
      refine (eqInts_true _ _ _ _ _ (fpL m yss ch t) _ G8.out.ints (S4.out.on D8.out) z8).mono ?_
      rintro e w9 ⟨rfl, b9⟩
      have K9 := Lib.hid (K8.out.on b9)
      have D9 := Lib.hid (below_trans' D8.out b9)
      have R9 := Lib.hid (R8.out.on b9)
      have X9 := Lib.hid (X8.out.on b9)
      have G9 := Lib.hid (G8.out.onB b9)
      clear K8 D8 R8 X8 G8 b9
      have ck := K9.out.cell.cell
      have cx := X9.out.cell
      go_wp2
      go_region_held3 (fun w' => w'.cell? ⟨w5.heap.size, 0, none⟩ = some (.slice V5 n5 c5) ∧ w'.cell? ⟨w.heap.size + 1, 0, none⟩ = some (.slice V n5 c))
        (first
          | go_keep
          | with_reducible exact ⟨X10.out.cell, K10.out.cell.cell⟩
          | with_reducible exact ⟨X11.out.cell, K11.out.cell.cell⟩)
        (first
          | (go_at_call 82; refine (toLock_any _ _ _ yss _ (K9.out.drewN 1).sets HN.out).mono ?_; rintro e w10 ⟨V10, n10, c10, gs10, rfl, P10', z10, y10, b10⟩; have K10 := Lib.hid ((K9.out.drewN 1).on b10); have D10 := Lib.hid (below_trans' (below_drewN D9.out 1) b10); have R10 := Lib.hid ((R9.out.drewN 1).on b10); have X10 := Lib.hid ((X9.out.drewN 1).on b10); have G10 := Lib.hid ((G9.out.drewB 1).onB b10); have P10 := Lib.hid P10'.sets; obtain rfl : n10 = n5 := P10'.len.symm.trans HL.out)
          | (go_at_call 84; refine (eqLock_true _ _ _ _ _ yss _ R10.out.sets P10.out HN.out).mono ?_; rintro e w11 ⟨rfl, b11⟩; have K11 := Lib.hid (K10.out.on b11); have D11 := Lib.hid (below_trans' D10.out b11); have R11 := Lib.hid (R10.out.on b11); have X11 := Lib.hid (X10.out.on b11); have G11 := Lib.hid (G10.out.onB b11); skip))
      all_goals
        clear ck cx K9 K10 D9 D10 R9 R10 X9 X10 G9 G10 P10 P10' b10 b11
        have ck := X11.out.cell
        go_wp2_with fail
        clear ck
        refine (markLock_any _ _ _ _ gs5 yss 1 _ R11.out HN.out (by omega) (by omega)).mono ?_
        rintro e w12 ⟨rfl, _, hap⟩
        have ap := hap _ TX.out
        have bl := ap.below (by have := D11.out.size; omega)
        have D12 := Lib.hid (D11.out.trans (bl.mono (by omega)))
        have K12 := Lib.hid (K11.out.under H.out bl (by omega))
        have G12 := Lib.hid (G11.out.pastB ap (by omega))
        have hn13 : ¬ rAt 1 yss n10 < 0 := by
          have := (rAt_range (k := 1) (yss := yss) (i := n10) (by omega) (by omega) (by have := HN.out; omega) (by rw [HL.out]; exact Nat.le_refl _)).1
          omega
        clear hap ap bl K11 D11 R11 X11 G11
        go_wp2_with fail
        refine (eqInts_true _ _ _ _ _ (fpL m yss ch t) _ G12.out.ints (S4.out.on D12.out) z8).mono ?_
        rintro e w13 ⟨rfl, b13⟩
        have K13 := Lib.hid (K12.out.on b13)
        have D13 := Lib.hid (below_trans' D12.out b13)
        have G13 := Lib.hid (G12.out.onB b13)
        clear K12 D12 G12 b13
        go_wp2_with fail
        refine (markInts_any _ _ _ (fpL m yss ch t) 1 _ _ _ G13.out z8 (by omega) (by omega)).mono ?_
        rintro e w14 ⟨rfl, G14', row, hgr, hrow⟩
        have hg13 := G13.out.size
        have D14 := Lib.hid (below_grown D13.out hgr (fun g e => by have := (hrow g e).1; omega))
        have bl := (Below.refl w7.heap.size w13).grown hgr (by omega) (fun g e => (hrow g e).1)
        have K14 := Lib.hid (K13.out.under H.out bl (by omega))
        have G14 := Lib.hid G14'
        clear hgr hrow bl G14' K13 D13 G13 hg13
        have hn15 : ¬ (1 + (n8 : Int)) < 0 := by omega
        have hd15 : ((1 + (n8 : Int)) != (1 + (n8 : Int))) = false := by simp
        go_wp2_with fail
        refine (heldInts_any _ _ _ 1 _ G14.out.ints z8 (by omega) (by omega)).mono ?_
        rintro e w' ⟨rfl, rfl⟩
        obtain ⟨q0, q1, q2, q3, q4, ck⟩ := K14.out.cells
        go_wp2
        go_region_held3 (fun w' => w'.cell? ⟨w.heap.size, 0, none⟩ = some (.int .i64 m.C) ∧ w'.cell? ⟨w.heap.size, 1, none⟩ = some (.int .i64 m.D) ∧ w'.cell? ⟨w.heap.size, 2, none⟩ = some (.int .i64 m.S) ∧ w'.cell? ⟨w.heap.size, 3, none⟩ = some (.int .i64 m.M) ∧ w'.cell? ⟨w.heap.size, 4, none⟩ = some (.int .i64 m.L) ∧ w'.cell? ⟨w.heap.size + 1, 0, none⟩ = some (.slice V n10 c))
          (first
            | go_keep
            | with_reducible exact K15.out.cells
            | with_reducible exact K16.out.cells
            | with_reducible exact K17.out.cells)
          (first
            | (go_at_call 74; refine (toMaker_any m _).mono ?_; rintro e w15 ⟨rfl, b15⟩; have K15 := Lib.hid ((K14.out.drewN 1).on b15); have D15 := Lib.hid (below_trans' (below_drewN D14.out 1) b15); have G15 := Lib.hid ((G14.out.drewB 1).onB b15); skip)
            | (go_at_call 82; refine (toLock_any _ _ _ yss _ K15.out.sets HN.out).mono ?_; rintro e w16 ⟨V16, n16, c16, gs16, rfl, P16', z16, y16, b16⟩; have K16 := Lib.hid ((K15.out).on b16); have D16 := Lib.hid (below_trans' (D15.out) b16); have G16 := Lib.hid ((G15.out).onB b16); have P16 := Lib.hid P16'.sets; have NN := Lib.hid (P16'.len.symm.trans HL.out))
            | (go_at_call 65; refine (freePlaces_any m _ _ _ yss ch t _ P16.out (by have := HN.out; have := NN.out; omega)).mono ?_; rintro e w17 ⟨V17, n17, c17, rfl, Q17', z17, y17, m17, b17⟩; have K17 := Lib.hid ((K16.out).on b17); have D17 := Lib.hid (below_trans' (D16.out) b17); have G17 := Lib.hid ((G16.out).onB b17); have Q17 := Lib.hid Q17'.ints))
        all_goals
          obtain rfl : n17 = n8 := Q17'.len.symm.trans HL4.out
          clear q0 q1 q2 q3 q4 ck P16 P16' NN K14 K15 K16 D14 D15 D16 G14 G15 G16 b15 b16 Q17' b17
          go_wp2_with fail
          refine (eqInts_true _ _ _ _ _ (fpL m yss ch t) _ Q17.out (S4.out.on D17.out) z8).mono ?_
          rintro e w18 ⟨rfl, b18⟩
          have K18 := Lib.hid (K17.out.on b18)
          have D18 := Lib.hid (below_trans' D17.out b18)
          have G18 := Lib.hid (G17.out.onB b18)
          clear Q17 K17 D17 G17 b18
          go_wp2_with fail
          refine (heldInts_any _ _ _ 1 _ G18.out.ints z8 (by omega) (by omega)).mono ?_
          rintro e w' ⟨rfl, rfl⟩
          have CE := K18.out.below
          clear K18 D18 G18
          go_wp2
          go_ret
          exact ⟨rfl, CE⟩

end Go.Proofs.Ytbfnffecmglgfaa
