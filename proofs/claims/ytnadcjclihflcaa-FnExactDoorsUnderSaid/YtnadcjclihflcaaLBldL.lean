/- The laws of DoorsOf, DoorsUnder and AncestorsOf. -/
import Derived.Test.YtnadcjclihflcaaLBld
import Derived.Deep.RegionHeld3
namespace Go.Proofs.Ytnadcjclihflcaa
open Go.RowKit

set_option maxRecDepth 100000 in
set_option maxHeartbeats 4000000 in
theorem lawDoorsUnder_any (A : Option Addr) (n c : Nat) (B : Option Addr) (k d : Nat) (P : List Int) (D : List Bool) (x : Int) (w : World) (h : Bld w A n B k P D) (hn : n ≤ 9223372036854775807) (hk : k ≤ 9223372036854775807) :
    Calls Try.prog 16 #[.agg #[.slice A n c, .slice B k d], .int .i64 x] w fun e w' => e = .returned (.bool true) ∧ Below w.heap.size w w' := by
  have c0 := (Below.refl w.heap.size w).alloc (Nat.le_refl _) (.cells #[.slice A n c, .slice B k d] 52)
  have X0 := Lib.hid (Cell2.new w 52 (.slice A n c) (.slice B k d))
  have C0 := Lib.hid c0
  have H := Lib.hid h
  obtain ⟨q0, q1⟩ := X0.out.cells
  clear c0 h
  go_enter Try.func16, Try.ntmps16
  go_wp2_with fail
  refine (szBuilding_any A B n c k d _ hn hk).mono ?_
  rintro e w1 ⟨⟨r, rfl, hr⟩, b1⟩
  have X1 := Lib.hid (X0.out.on b1)
  have C1 := Lib.hid (below_trans' C0.out b1)
  have HR := Lib.hid hr
  clear b1 q0 q1 hr X0 C0
  by_cases h0 : r < 0
  · go_wp2
    go_ret
    exact ⟨rfl, C1.out⟩
  have hnk := HR.out (by omega)
  have hn2 : n ≤ 1048576 := by omega
  have hk2 : k ≤ 1048576 := by omega
  obtain ⟨q0, q1⟩ := X1.out.cells
  have d2 : (nodE P D x != nodE P D x) = false := by simp
  go_wp2_with fail
  refine (toBuilding_any A B n c k d P D _ (H.out.on C1.out) hnk).mono ?_
  rintro e w2 ⟨Ay, ny, cy, By, ky, dy, rfl, oy, b2⟩
  obtain rfl : n = ny := by rw [← oy.ps.len, ← H.out.ps.len]
  obtain rfl : k = ky := by rw [← oy.ds.len, ← H.out.ds.len]
  have X2 := Lib.hid (X1.out.on b2)
  have C2 := Lib.hid (below_trans' C1.out b2)
  have O2 := Lib.hid oy.bld
  clear b2 oy X1 C1 q0 q1
  go_wp2_with fail
  refine (specDoorsUnder_any _ _ _ _ _ _ P D x _ O2.out hn2 hk2).mono ?_
  rintro e w3 ⟨Aw, nw, cw, rfl, ow, hnw, _, _, b3⟩
  have X3 := Lib.hid (X2.out.on b3)
  have C3 := Lib.hid (below_trans' C2.out b3)
  have W3 := Lib.hid ow
  have l2 : w.heap.size < w2.heap.size := X2.out.lt
  have s3 := b3.size
  clear b3 X2 C2 O2 ow
  obtain ⟨q0, q1⟩ := X3.out.cells
  go_wp2_with fail
  refine (toBuilding_any A B n c k d P D _ (H.out.on C3.out) hnk).mono ?_
  rintro e w4 ⟨Ax, nx, cx, Bx, kx, dx, rfl, ox, b4⟩
  obtain rfl : n = nx := by rw [← ox.ps.len, ← H.out.ps.len]
  obtain rfl : k = kx := by rw [← ox.ds.len, ← H.out.ds.len]
  have bA := (Below.refl w4.heap.size w4).alloc (Nat.le_refl _) (.cells #[.slice Ax n cx, .slice Bx k dx] 27)
  have s4 := b4.size
  have X4 := Lib.hid ((X3.out.on b4).on bA)
  have C4 := Lib.hid (below_trans' (below_trans' C3.out b4) bA)
  have W4 := Lib.hid ((W3.out.below b4).below bA)
  have G4 := Lib.hid (Cell2.new w4 27 (.slice Ax n cx) (.slice Bx k dx))
  have O4 := Lib.hid (ox.below bA)
  clear b4 bA ox X3 C3 W3 q0 q1
  go_wp2_with fail
  refine (doorsUnder_any _ _ _ _ _ _ P D x _ O4.out.bld hn2 hk2).mono ?_
  rintro e w5 ⟨Ag, ng, cg, rfl, og, hng, _, _, b5⟩
  obtain rfl : nw = ng := by rw [← W4.out.len, ← og.len]
  rw [World.size_alloc] at og
  have s5 := b5.size
  rw [World.size_alloc] at s5
  have X5 := Lib.hid (X4.out.on b5)
  have C5 := Lib.hid (below_trans' C4.out b5)
  have G5 := Lib.hid (G4.out.on b5)
  have O5 := Lib.hid (O4.out.below b5)
  have W5 := Lib.hid (W4.out.below b5)
  have Y5 := Lib.hid og
  clear b5 X4 C4 G4 O4 W4 og
  go_wp2_with fail
  refine (eqInts_true _ _ _ _ _ _ _ Y5.out.ints W5.out.ints hnw).mono ?_
  rintro e w6 ⟨rfl, b6⟩
  have X6 := Lib.hid (X5.out.on b6)
  have C6 := Lib.hid (below_trans' C5.out b6)
  have G6 := Lib.hid (G5.out.on b6)
  have O6 := Lib.hid (O5.out.below b6)
  have W6 := Lib.hid (W5.out.below b6)
  have Y6 := Lib.hid (Y5.out.below b6)
  clear b6 X5 C5 G5 O5 W5 Y5
  obtain ⟨q0, q1⟩ := X6.out.cells
  obtain ⟨g0, g1⟩ := G6.out.cells
  go_wp2
  go_region_held3 (fun w' => w'.cell? ⟨w.heap.size, 0, none⟩ = some (.slice A n c) ∧ w'.cell? ⟨w.heap.size, 1, none⟩ = some (.slice B k d) ∧ w'.cell? ⟨w4.heap.size, 0, none⟩ = some (.slice Ax n cx) ∧ w'.cell? ⟨w4.heap.size, 1, none⟩ = some (.slice Bx k dx))
    (first
      | go_keep
      | (with_reducible exact E1.out)
      | (with_reducible exact E2.out))
    (first
      | (go_at_call 65; refine (toBuilding_any A B n c k d P D _ (H.out.on (below_drewN C6.out 1)) hnk).mono ?_; rintro e wa ⟨Aa, na, ca, Ba, ka, da, rfl, oa, ba⟩; (obtain rfl : n = na := by rw [← oa.ps.len, ← H.out.ps.len]); (obtain rfl : k = ka := by rw [← oa.ds.len, ← H.out.ds.len]); have Xa := Lib.hid (X6.out.on (below_trans' (below_drewN (Below.refl _ _) 1) ba)); have Ga := Lib.hid (G6.out.on (below_trans' (below_drewN (Below.refl _ _) 1) ba)); have Ca := Lib.hid (below_trans' C6.out (below_trans' (below_drewN (Below.refl _ _) 1) ba)); have Oa := Lib.hid oa.bld; have OXa := Lib.hid (O6.out.below (below_trans' (below_drewN (Below.refl _ _) 1) ba)); have Wa := Lib.hid (W6.out.below (below_trans' (below_drewN (Below.refl _ _) 1) ba)); have Ya := Lib.hid (Y6.out.below (below_trans' (below_drewN (Below.refl _ _) 1) ba)); have E1 := Lib.hid (both_cells Xa.out Ga.out))
      | (go_at_call 66; refine (eqBuilding_true _ _ _ _ _ _ _ _ _ _ P D _ OXa.out.bld Oa.out hn2 hk2).mono ?_; rintro e wb ⟨rfl, bb⟩; have Xb := Lib.hid (Xa.out.on bb); have Gb := Lib.hid (Ga.out.on bb); have Cb := Lib.hid (below_trans' Ca.out bb); have OXb := Lib.hid (OXa.out.below bb); have Wb := Lib.hid (Wa.out.below bb); have Yb := Lib.hid (Ya.out.below bb); have E2 := Lib.hid (both_cells Xb.out Gb.out)))
  clear q0 q1 g0 g1 X6 C6 G6 O6 W6 Y6 E1 E2 Xa Ga Ca Oa OXa Wa Ya oa ba bb
  obtain ⟨q0, q1⟩ := Xb.out.cells
  obtain ⟨g0, g1⟩ := Gb.out.cells
  have hz1 : ¬ (1 + (n : Int) + (k : Int) < 0) := by omega
  go_wp2_with fail
  refine (markBuilding_any Ax Bx n cx k dx _ _ P D 1 _ OXb.out hn2 hk2 (by omega) (by omega)).mono ?_
  rintro e w7 ⟨rfl, _, wm, r1, r2, hg1, hg2, hr1, hr2⟩
  have lx : w.heap.size < w3.heap.size := by omega
  have X7 := Lib.hid ((Xb.out.grown hg1 (fun e => by have := hr1 _ e.symm; omega)).grown hg2 (fun e => by have := hr2 _ e.symm; omega))
  have C7 := Lib.hid (below_grown (below_grown Cb.out hg1 (fun g e => by have := hr1 g e; omega)) hg2 (fun g e => by have := hr2 g e; omega))
  have W7 := Lib.hid ((Wb.out.apart hg1 (fun g e => .inr (hr1 g e).1)).apart hg2 (fun g e => .inr (hr2 g e).1))
  have Y7 := Lib.hid ((Yb.out.apart hg1 (fun g e => .inl (by have := (hr1 g e).2; omega))).apart hg2 (fun g e => .inl (by have := (hr2 g e).2; omega)))
  clear q0 q1 g0 g1 hg1 hg2 hr1 hr2 Xb Gb Cb OXb Wb Yb
  go_wp2_with fail
  refine (eqInts_true _ _ _ _ _ _ _ Y7.out.ints W7.out.ints hnw).mono ?_
  rintro e w8 ⟨rfl, b8⟩
  have X8 := Lib.hid (X7.out.on b8)
  have C8 := Lib.hid (below_trans' C7.out b8)
  have W8 := Lib.hid (W7.out.below b8)
  have Y8 := Lib.hid (Y7.out.below b8)
  clear b8 X7 C7 W7 Y7
  go_wp2_with fail
  refine (markInts_any _ _ _ _ 1 _ _ _ Y8.out hnw (by omega) (by omega)).mono ?_
  rintro e w9 ⟨rfl, og9, row, hgr, hrow⟩
  have X9 := Lib.hid (X8.out.grown hgr (fun e => by have := hrow _ e.symm; omega))
  have C9 := Lib.hid (below_grown C8.out hgr (fun g e => by have := (hrow g e).1; omega))
  have W9 := Lib.hid (W8.out.apart hgr (fun g e => .inr (by have := (hrow g e).1; omega)))
  have Y9 := Lib.hid og9
  clear hgr hrow og9 X8 C8 W8 Y8
  go_wp2_with fail
  refine (heldInts_any _ _ _ 1 _ Y9.out.ints hnw (by omega) (by omega)).mono ?_
  rintro e w' ⟨rfl, rfl⟩
  have q2 : ((1 + (nw : Int)) != (1 + (nw : Int))) = false := by simp
  obtain ⟨q0, q1⟩ := X9.out.cells
  go_wp2_with fail
  refine (toBuilding_any A B n c k d P D _ (H.out.on C9.out) hnk).mono ?_
  rintro e w10 ⟨Az, nz, cz, Bz, kz, dz, rfl, oz, b10⟩
  obtain rfl : n = nz := by rw [← oz.ps.len, ← H.out.ps.len]
  obtain rfl : k = kz := by rw [← oz.ds.len, ← H.out.ds.len]
  have C10 := Lib.hid (below_trans' C9.out b10)
  have W10 := Lib.hid (W9.out.below b10)
  have Y10 := Lib.hid (Y9.out.below b10)
  have O10 := Lib.hid oz.bld
  clear b10 oz q0 q1 X9 C9 W9 Y9
  go_wp2_with fail
  refine (doorsUnder_any _ _ _ _ _ _ P D x _ O10.out hn2 hk2).mono ?_
  rintro e w11 ⟨Ah, nh, ch, rfl, oh, hnh, _, _, b11⟩
  obtain rfl : nw = nh := by rw [← W10.out.len, ← oh.len]
  have C11 := Lib.hid (below_trans' C10.out b11)
  have W11 := Lib.hid (W10.out.below b11)
  have Y11 := Lib.hid (Y10.out.below b11)
  have Z11 := Lib.hid oh
  clear b11 oh C10 W10 Y10 O10
  go_wp2_with fail
  refine (eqInts_true _ _ _ _ _ _ _ Z11.out.ints W11.out.ints hnw).mono ?_
  rintro e w12 ⟨rfl, b12⟩
  have C12 := Lib.hid (below_trans' C11.out b12)
  have Y12 := Lib.hid (Y11.out.below b12)
  clear b12 C11 W11 Y11 Z11
  go_wp2_with fail
  refine (heldInts_any _ _ _ 1 _ Y12.out.ints hnw (by omega) (by omega)).mono ?_
  rintro e w' ⟨rfl, rfl⟩
  go_wp2
  go_ret
  exact ⟨rfl, C12.out⟩

set_option maxRecDepth 100000 in
set_option maxHeartbeats 4000000 in
theorem lawDoorsOf_any (A : Option Addr) (n c : Nat) (B : Option Addr) (k d : Nat) (P : List Int) (D : List Bool) (w : World) (h : Bld w A n B k P D) (hn : n ≤ 9223372036854775807) (hk : k ≤ 9223372036854775807) :
    Calls Try.prog 15 #[.agg #[.slice A n c, .slice B k d]] w fun e w' => e = .returned (.bool true) ∧ Below w.heap.size w w' := by
  have c0 := (Below.refl w.heap.size w).alloc (Nat.le_refl _) (.cells #[.slice A n c, .slice B k d] 52)
  have X0 := Lib.hid (Cell2.new w 52 (.slice A n c) (.slice B k d))
  have C0 := Lib.hid c0
  have H := Lib.hid h
  obtain ⟨q0, q1⟩ := X0.out.cells
  clear c0 h
  go_enter Try.func15, Try.ntmps15
  go_wp2_with fail
  refine (szBuilding_any A B n c k d _ hn hk).mono ?_
  rintro e w1 ⟨⟨r, rfl, hr⟩, b1⟩
  have X1 := Lib.hid (X0.out.on b1)
  have C1 := Lib.hid (below_trans' C0.out b1)
  have HR := Lib.hid hr
  clear b1 q0 q1 hr X0 C0
  by_cases h0 : r < 0
  · go_wp2
    go_ret
    exact ⟨rfl, C1.out⟩
  have hnk := HR.out (by omega)
  have hn2 : n ≤ 1048576 := by omega
  have hk2 : k ≤ 1048576 := by omega
  obtain ⟨q0, q1⟩ := X1.out.cells
  have d2 : (nodE P D 0 != nodE P D 0) = false := by simp
  go_wp2_with fail
  refine (toBuilding_any A B n c k d P D _ (H.out.on C1.out) hnk).mono ?_
  rintro e w2 ⟨Ay, ny, cy, By, ky, dy, rfl, oy, b2⟩
  obtain rfl : n = ny := by rw [← oy.ps.len, ← H.out.ps.len]
  obtain rfl : k = ky := by rw [← oy.ds.len, ← H.out.ds.len]
  have X2 := Lib.hid (X1.out.on b2)
  have C2 := Lib.hid (below_trans' C1.out b2)
  have O2 := Lib.hid oy.bld
  clear b2 oy X1 C1 q0 q1
  go_wp2_with fail
  refine (specDoorsOf_any _ _ _ _ _ _ P D _ O2.out hn2 hk2).mono ?_
  rintro e w3 ⟨Aw, nw, cw, rfl, ow, hnw, _, _, b3⟩
  have X3 := Lib.hid (X2.out.on b3)
  have C3 := Lib.hid (below_trans' C2.out b3)
  have W3 := Lib.hid ow
  have l2 : w.heap.size < w2.heap.size := X2.out.lt
  have s3 := b3.size
  clear b3 X2 C2 O2 ow
  obtain ⟨q0, q1⟩ := X3.out.cells
  go_wp2_with fail
  refine (toBuilding_any A B n c k d P D _ (H.out.on C3.out) hnk).mono ?_
  rintro e w4 ⟨Ax, nx, cx, Bx, kx, dx, rfl, ox, b4⟩
  obtain rfl : n = nx := by rw [← ox.ps.len, ← H.out.ps.len]
  obtain rfl : k = kx := by rw [← ox.ds.len, ← H.out.ds.len]
  have bA := (Below.refl w4.heap.size w4).alloc (Nat.le_refl _) (.cells #[.slice Ax n cx, .slice Bx k dx] 27)
  have s4 := b4.size
  have X4 := Lib.hid ((X3.out.on b4).on bA)
  have C4 := Lib.hid (below_trans' (below_trans' C3.out b4) bA)
  have W4 := Lib.hid ((W3.out.below b4).below bA)
  have G4 := Lib.hid (Cell2.new w4 27 (.slice Ax n cx) (.slice Bx k dx))
  have O4 := Lib.hid (ox.below bA)
  clear b4 bA ox X3 C3 W3 q0 q1
  go_wp2_with fail
  refine (doorsOf_any _ _ _ _ _ _ P D _ O4.out.bld hn2 hk2).mono ?_
  rintro e w5 ⟨Ag, ng, cg, rfl, og, hng, _, _, b5⟩
  obtain rfl : nw = ng := by rw [← W4.out.len, ← og.len]
  rw [World.size_alloc] at og
  have s5 := b5.size
  rw [World.size_alloc] at s5
  have X5 := Lib.hid (X4.out.on b5)
  have C5 := Lib.hid (below_trans' C4.out b5)
  have G5 := Lib.hid (G4.out.on b5)
  have O5 := Lib.hid (O4.out.below b5)
  have W5 := Lib.hid (W4.out.below b5)
  have Y5 := Lib.hid og
  clear b5 X4 C4 G4 O4 W4 og
  go_wp2_with fail
  refine (eqInts_true _ _ _ _ _ _ _ Y5.out.ints W5.out.ints hnw).mono ?_
  rintro e w6 ⟨rfl, b6⟩
  have X6 := Lib.hid (X5.out.on b6)
  have C6 := Lib.hid (below_trans' C5.out b6)
  have G6 := Lib.hid (G5.out.on b6)
  have O6 := Lib.hid (O5.out.below b6)
  have W6 := Lib.hid (W5.out.below b6)
  have Y6 := Lib.hid (Y5.out.below b6)
  clear b6 X5 C5 G5 O5 W5 Y5
  obtain ⟨q0, q1⟩ := X6.out.cells
  obtain ⟨g0, g1⟩ := G6.out.cells
  go_wp2
  go_region_held3 (fun w' => w'.cell? ⟨w.heap.size, 0, none⟩ = some (.slice A n c) ∧ w'.cell? ⟨w.heap.size, 1, none⟩ = some (.slice B k d) ∧ w'.cell? ⟨w4.heap.size, 0, none⟩ = some (.slice Ax n cx) ∧ w'.cell? ⟨w4.heap.size, 1, none⟩ = some (.slice Bx k dx))
    (first
      | go_keep
      | (with_reducible exact E1.out)
      | (with_reducible exact E2.out))
    (first
      | (go_at_call 65; refine (toBuilding_any A B n c k d P D _ (H.out.on (below_drewN C6.out 1)) hnk).mono ?_; rintro e wa ⟨Aa, na, ca, Ba, ka, da, rfl, oa, ba⟩; (obtain rfl : n = na := by rw [← oa.ps.len, ← H.out.ps.len]); (obtain rfl : k = ka := by rw [← oa.ds.len, ← H.out.ds.len]); have Xa := Lib.hid (X6.out.on (below_trans' (below_drewN (Below.refl _ _) 1) ba)); have Ga := Lib.hid (G6.out.on (below_trans' (below_drewN (Below.refl _ _) 1) ba)); have Ca := Lib.hid (below_trans' C6.out (below_trans' (below_drewN (Below.refl _ _) 1) ba)); have Oa := Lib.hid oa.bld; have OXa := Lib.hid (O6.out.below (below_trans' (below_drewN (Below.refl _ _) 1) ba)); have Wa := Lib.hid (W6.out.below (below_trans' (below_drewN (Below.refl _ _) 1) ba)); have Ya := Lib.hid (Y6.out.below (below_trans' (below_drewN (Below.refl _ _) 1) ba)); have E1 := Lib.hid (both_cells Xa.out Ga.out))
      | (go_at_call 66; refine (eqBuilding_true _ _ _ _ _ _ _ _ _ _ P D _ OXa.out.bld Oa.out hn2 hk2).mono ?_; rintro e wb ⟨rfl, bb⟩; have Xb := Lib.hid (Xa.out.on bb); have Gb := Lib.hid (Ga.out.on bb); have Cb := Lib.hid (below_trans' Ca.out bb); have OXb := Lib.hid (OXa.out.below bb); have Wb := Lib.hid (Wa.out.below bb); have Yb := Lib.hid (Ya.out.below bb); have E2 := Lib.hid (both_cells Xb.out Gb.out)))
  clear q0 q1 g0 g1 X6 C6 G6 O6 W6 Y6 E1 E2 Xa Ga Ca Oa OXa Wa Ya oa ba bb
  obtain ⟨q0, q1⟩ := Xb.out.cells
  obtain ⟨g0, g1⟩ := Gb.out.cells
  have hz1 : ¬ (1 + (n : Int) + (k : Int) < 0) := by omega
  go_wp2_with fail
  refine (markBuilding_any Ax Bx n cx k dx _ _ P D 1 _ OXb.out hn2 hk2 (by omega) (by omega)).mono ?_
  rintro e w7 ⟨rfl, _, wm, r1, r2, hg1, hg2, hr1, hr2⟩
  have lx : w.heap.size < w3.heap.size := by omega
  have X7 := Lib.hid ((Xb.out.grown hg1 (fun e => by have := hr1 _ e.symm; omega)).grown hg2 (fun e => by have := hr2 _ e.symm; omega))
  have C7 := Lib.hid (below_grown (below_grown Cb.out hg1 (fun g e => by have := hr1 g e; omega)) hg2 (fun g e => by have := hr2 g e; omega))
  have W7 := Lib.hid ((Wb.out.apart hg1 (fun g e => .inr (hr1 g e).1)).apart hg2 (fun g e => .inr (hr2 g e).1))
  have Y7 := Lib.hid ((Yb.out.apart hg1 (fun g e => .inl (by have := (hr1 g e).2; omega))).apart hg2 (fun g e => .inl (by have := (hr2 g e).2; omega)))
  clear q0 q1 g0 g1 hg1 hg2 hr1 hr2 Xb Gb Cb OXb Wb Yb
  go_wp2_with fail
  refine (eqInts_true _ _ _ _ _ _ _ Y7.out.ints W7.out.ints hnw).mono ?_
  rintro e w8 ⟨rfl, b8⟩
  have X8 := Lib.hid (X7.out.on b8)
  have C8 := Lib.hid (below_trans' C7.out b8)
  have W8 := Lib.hid (W7.out.below b8)
  have Y8 := Lib.hid (Y7.out.below b8)
  clear b8 X7 C7 W7 Y7
  go_wp2_with fail
  refine (markInts_any _ _ _ _ 1 _ _ _ Y8.out hnw (by omega) (by omega)).mono ?_
  rintro e w9 ⟨rfl, og9, row, hgr, hrow⟩
  have X9 := Lib.hid (X8.out.grown hgr (fun e => by have := hrow _ e.symm; omega))
  have C9 := Lib.hid (below_grown C8.out hgr (fun g e => by have := (hrow g e).1; omega))
  have W9 := Lib.hid (W8.out.apart hgr (fun g e => .inr (by have := (hrow g e).1; omega)))
  have Y9 := Lib.hid og9
  clear hgr hrow og9 X8 C8 W8 Y8
  go_wp2_with fail
  refine (heldInts_any _ _ _ 1 _ Y9.out.ints hnw (by omega) (by omega)).mono ?_
  rintro e w' ⟨rfl, rfl⟩
  have q2 : ((1 + (nw : Int)) != (1 + (nw : Int))) = false := by simp
  obtain ⟨q0, q1⟩ := X9.out.cells
  go_wp2_with fail
  refine (toBuilding_any A B n c k d P D _ (H.out.on C9.out) hnk).mono ?_
  rintro e w10 ⟨Az, nz, cz, Bz, kz, dz, rfl, oz, b10⟩
  obtain rfl : n = nz := by rw [← oz.ps.len, ← H.out.ps.len]
  obtain rfl : k = kz := by rw [← oz.ds.len, ← H.out.ds.len]
  have C10 := Lib.hid (below_trans' C9.out b10)
  have W10 := Lib.hid (W9.out.below b10)
  have Y10 := Lib.hid (Y9.out.below b10)
  have O10 := Lib.hid oz.bld
  clear b10 oz q0 q1 X9 C9 W9 Y9
  go_wp2_with fail
  refine (doorsOf_any _ _ _ _ _ _ P D _ O10.out hn2 hk2).mono ?_
  rintro e w11 ⟨Ah, nh, ch, rfl, oh, hnh, _, _, b11⟩
  obtain rfl : nw = nh := by rw [← W10.out.len, ← oh.len]
  have C11 := Lib.hid (below_trans' C10.out b11)
  have W11 := Lib.hid (W10.out.below b11)
  have Y11 := Lib.hid (Y10.out.below b11)
  have Z11 := Lib.hid oh
  clear b11 oh C10 W10 Y10 O10
  go_wp2_with fail
  refine (eqInts_true _ _ _ _ _ _ _ Z11.out.ints W11.out.ints hnw).mono ?_
  rintro e w12 ⟨rfl, b12⟩
  have C12 := Lib.hid (below_trans' C11.out b12)
  have Y12 := Lib.hid (Y11.out.below b12)
  clear b12 C11 W11 Y11 Z11
  go_wp2_with fail
  refine (heldInts_any _ _ _ 1 _ Y12.out.ints hnw (by omega) (by omega)).mono ?_
  rintro e w' ⟨rfl, rfl⟩
  go_wp2
  go_ret
  exact ⟨rfl, C12.out⟩

end Go.Proofs.Ytnadcjclihflcaa
