/- The laws of IsPlan and MayEnter. -/
import Derived.Test.YtnadcjclihflcaaPlU
import Derived.Test.YtnadcjclihflcaaPlMe
import Derived.Test.YtnadcjclihflcaaOpenP
import Derived.Deep.RegionHeld3
namespace Go.Proofs.Ytnadcjclihflcaa
open Go.RowKit

theorem both_cells3 {w : World} {b g : Nat} {s t : TypeId} {u v a x y z : Value} (h : Cell3 w b s u v a) (k : Cell3 w g t x y z) : w.cell? ⟨b, 0, none⟩ = some u ∧ w.cell? ⟨b, 1, none⟩ = some v ∧ w.cell? ⟨b, 2, none⟩ = some a ∧ w.cell? ⟨g, 0, none⟩ = some x ∧ w.cell? ⟨g, 1, none⟩ = some y ∧ w.cell? ⟨g, 2, none⟩ = some z := ⟨h.cells.1, h.cells.2.1, h.cells.2.2, k.cells.1, k.cells.2.1, k.cells.2.2⟩

theorem Own.across {w w' : World} {lo hi l r n : Nat} {A : Option Addr} {xs : List Int} (h : Own w l r A n xs) (ha : Apart lo hi w w') (hr : r ≤ lo ∨ hi ≤ l) : Own w' l r A n xs :=
  ⟨h.1, Nat.le_trans h.2.1 ha.size, fun hn => by
    obtain ⟨ad, e, h1, h2, hc⟩ := h.2.2 hn
    refine ⟨ad, e, h1, h2, fun j v hv => ?_⟩
    have hb := ha.block (ad.add j).block (by rw [block_of_add]; have := h.2.1; omega) (by rw [block_of_add]; omega)
    rw [World.frozen?_of_block (w := w) hb, World.cell?_of_block (w := w) hb]
    exact hc j v hv⟩
theorem Apart.below' {lo lo' hi : Nat} {w w' : World} (h : Apart lo hi w w') (h1 : lo' ≤ w.heap.size) (h2 : lo' ≤ lo) : Below lo' w w' := ⟨h.os, h.tape, h.output, h.size, fun k hk => h.block k (by omega) (.inl (by omega))⟩

set_option maxRecDepth 100000 in
set_option maxHeartbeats 4000000 in
theorem lawIsPlan_any (A : Option Addr) (n c : Nat) (B : Option Addr) (k d : Nat) (V : Option Addr) (q e0 : Nat) (P : List Int) (D : List Bool) (R : List (List Int)) (w : World) (h : Pl w A n B k V q P D R) (hn : n ≤ 9223372036854775807) (hk : k ≤ 9223372036854775807) (hq : q ≤ 9223372036854775807) :
    Calls Try.prog 6 #[.agg #[.slice A n c, .slice B k d, .slice V q e0]] w fun e w' => e = .returned (.bool true) ∧ Below w.heap.size w w' := by
  have c0 := (Below.refl w.heap.size w).alloc (Nat.le_refl _) (.cells #[.slice A n c, .slice B k d, .slice V q e0] 54)
  have X0 := Lib.hid (Cell3.new w 54 (.slice A n c) (.slice B k d) (.slice V q e0))
  have C0 := Lib.hid c0
  have H0 := Lib.hid (h.on c0)
  have H := Lib.hid h
  obtain ⟨q0, q1, q2⟩ := X0.out.cells
  clear c0 h
  go_enter Try.func6, Try.ntmps6
  go_wp2_with fail
  refine (szPlan_any A B V n c k d q e0 P D R _ H0.out hn hk hq).mono ?_
  rintro e w1 ⟨⟨r, rfl, hr⟩, b1⟩
  have X1 := Lib.hid (X0.out.on b1)
  have C1 := Lib.hid (below_trans' C0.out b1)
  have HR := Lib.hid hr
  clear b1 q0 q1 q2 hr X0 C0 H0
  by_cases h0 : r < 0
  · go_wp2
    go_ret
    exact ⟨rfl, C1.out⟩
  have hnk := HR.out (by omega)
  have hn2 : n ≤ 1048576 := by omega
  have hk2 : k ≤ 1048576 := by omega
  have hq2 : q + sizeL R ≤ 1048576 := by omega
  obtain ⟨q0, q1, q2⟩ := X1.out.cells
  go_wp2_with fail
  refine (toPlan_any A B V n c k d q e0 P D R _ (H.out.on C1.out) hnk).mono ?_
  rintro e w2 ⟨Ay, ny, cy, By, ky, dy, Vy, uy, ey, my, gy, rfl, oy, b2⟩
  obtain rfl : n = ny := by rw [← oy.b.ps.len, ← H.out.b.ps.len]
  obtain rfl : k = ky := by rw [← oy.b.ds.len, ← H.out.b.ds.len]
  obtain rfl : q = uy := by rw [← oy.r.len, ← H.out.r.len]
  have X2 := Lib.hid (X1.out.on b2)
  have C2 := Lib.hid (below_trans' C1.out b2)
  have O2 := Lib.hid oy.pl
  clear b2 oy X1 C1 q0 q1 q2
  go_wp2_with fail
  refine (specIsPlan_any _ _ _ _ _ _ _ _ _ P D R _ O2.out hn2 hk2 hq2).mono ?_
  rintro e w3 ⟨rfl, b3⟩
  have X3 := Lib.hid (X2.out.on b3)
  have C3 := Lib.hid (below_trans' C2.out b3)
  clear b3 X2 C2 O2
  obtain ⟨q0, q1, q2⟩ := X3.out.cells
  go_wp2_with fail
  refine (toPlan_any A B V n c k d q e0 P D R _ (H.out.on C3.out) hnk).mono ?_
  rintro e w4 ⟨Ax, nx, cx, Bx, kx, dx, Vx, ux, ex, mx, gx, rfl, ox, b4⟩
  obtain rfl : n = nx := by rw [← ox.b.ps.len, ← H.out.b.ps.len]
  obtain rfl : k = kx := by rw [← ox.b.ds.len, ← H.out.b.ds.len]
  obtain rfl : q = ux := by rw [← ox.r.len, ← H.out.r.len]
  have bA := (Below.refl w4.heap.size w4).alloc (Nat.le_refl _) (.cells #[.slice Ax n cx, .slice Bx k dx, .slice Vx q ex] 30)
  have X4 := Lib.hid ((X3.out.on b4).on bA)
  have C4 := Lib.hid (below_trans' (below_trans' C3.out b4) bA)
  have G4 := Lib.hid (Cell3.new w4 30 (.slice Ax n cx) (.slice Bx k dx) (.slice Vx q ex))
  have O4 := Lib.hid (ox.below bA)
  clear b4 bA ox X3 C3 q0 q1 q2
  obtain ⟨g0, g1, g2⟩ := G4.out.cells
  go_wp2_with fail
  refine (isPlan_any _ _ _ _ _ _ _ _ _ P D R _ O4.out.pl hn2 hk2 hq2).mono ?_
  rintro e w5 ⟨rfl, b5⟩
  have X5 := Lib.hid (X4.out.on b5)
  have C5 := Lib.hid (below_trans' C4.out b5)
  have G5 := Lib.hid (G4.out.on b5)
  have O5 := Lib.hid (O4.out.below b5)
  clear b5 X4 C4 G4 O4 g0 g1 g2
  obtain ⟨q0, q1, q2⟩ := X5.out.cells
  obtain ⟨g0, g1, g2⟩ := G5.out.cells
  have d1 : (planB P D R != planB P D R) = false := by simp
  go_wp2
  go_region_held3 (fun w' => w'.cell? ⟨w.heap.size, 0, none⟩ = some (.slice A n c) ∧ w'.cell? ⟨w.heap.size, 1, none⟩ = some (.slice B k d) ∧ w'.cell? ⟨w.heap.size, 2, none⟩ = some (.slice V q e0) ∧ w'.cell? ⟨w4.heap.size, 0, none⟩ = some (.slice Ax n cx) ∧ w'.cell? ⟨w4.heap.size, 1, none⟩ = some (.slice Bx k dx) ∧ w'.cell? ⟨w4.heap.size, 2, none⟩ = some (.slice Vx q ex))
    (first
      | go_keep
      | (with_reducible exact E1.out)
      | (with_reducible exact E2.out))
    (first
      | (go_at_call 53; refine (toPlan_any A B V n c k d q e0 P D R _ (H.out.on (below_drewN C5.out 1)) hnk).mono ?_; rintro e wa ⟨Aa, na, ca, Ba, ka, da, Va, ua, ea, ma, ga, rfl, oa, ba⟩; (obtain rfl : n = na := by rw [← oa.b.ps.len, ← H.out.b.ps.len]); (obtain rfl : k = ka := by rw [← oa.b.ds.len, ← H.out.b.ds.len]); (obtain rfl : q = ua := by rw [← oa.r.len, ← H.out.r.len]); have bb1 := below_trans' (below_drewN (Below.refl _ _) 1) ba; have Xa := Lib.hid (X5.out.on bb1); have Ga := Lib.hid (G5.out.on bb1); have Ca := Lib.hid (below_trans' C5.out bb1); have Oa := Lib.hid oa.pl; have OXa := Lib.hid (O5.out.below bb1); have E1 := Lib.hid (both_cells3 Xa.out Ga.out))
      | (go_at_call 54; refine (eqPlan_true _ _ _ _ _ _ _ _ _ _ _ _ _ _ _ P D R _ OXa.out.pl Oa.out hnk).mono ?_; rintro e wb ⟨rfl, bb⟩; have Xb := Lib.hid (Xa.out.on bb); have Gb := Lib.hid (Ga.out.on bb); have Cb := Lib.hid (below_trans' Ca.out bb); have OXb := Lib.hid (OXa.out.below bb); have E2 := Lib.hid (both_cells3 Xb.out Gb.out)))
  all_goals
    have CE := Cb
    clear q0 q1 q2 g0 g1 g2
    go_wp2
    go_ret
    exact ⟨rfl, CE.out⟩

set_option maxRecDepth 100000 in
set_option maxHeartbeats 4000000 in
theorem lawMayEnter_any (A : Option Addr) (n c : Nat) (B : Option Addr) (k d : Nat) (V : Option Addr) (q e0 : Nat) (P : List Int) (D : List Bool) (R : List (List Int)) (x y : Int) (w : World) (h : Pl w A n B k V q P D R) (hn : n ≤ 9223372036854775807) (hk : k ≤ 9223372036854775807) (hq : q ≤ 9223372036854775807) :
    Calls Try.prog 7 #[.agg #[.slice A n c, .slice B k d, .slice V q e0], .int .i64 x, .int .i64 y] w fun e w' => e = .returned (.bool true) ∧ Below w.heap.size w w' := by
  have c0 := (Below.refl w.heap.size w).alloc (Nat.le_refl _) (.cells #[.slice A n c, .slice B k d, .slice V q e0] 54)
  have X0 := Lib.hid (Cell3.new w 54 (.slice A n c) (.slice B k d) (.slice V q e0))
  have C0 := Lib.hid c0
  have H0 := Lib.hid (h.on c0)
  have H := Lib.hid h
  obtain ⟨q0, q1, q2⟩ := X0.out.cells
  clear c0 h
  go_enter Try.func7, Try.ntmps7
  go_wp2_with fail
  refine (szPlan_any A B V n c k d q e0 P D R _ H0.out hn hk hq).mono ?_
  rintro e w1 ⟨⟨r, rfl, hr⟩, b1⟩
  have X1 := Lib.hid (X0.out.on b1)
  have C1 := Lib.hid (below_trans' C0.out b1)
  have HR := Lib.hid hr
  clear b1 q0 q1 q2 hr X0 C0 H0
  by_cases h0 : r < 0
  · go_wp2
    go_ret
    exact ⟨rfl, C1.out⟩
  have hnk := HR.out (by omega)
  have hn2 : n ≤ 1048576 := by omega
  have hk2 : k ≤ 1048576 := by omega
  have hq2 : q + sizeL R ≤ 1048576 := by omega
  obtain ⟨q0, q1, q2⟩ := X1.out.cells
  go_wp2_with fail
  refine (toPlan_any A B V n c k d q e0 P D R _ (H.out.on C1.out) hnk).mono ?_
  rintro e w2 ⟨Ay, ny, cy, By, ky, dy, Vy, uy, ey, my, gy, rfl, oy, b2⟩
  obtain rfl : n = ny := by rw [← oy.b.ps.len, ← H.out.b.ps.len]
  obtain rfl : k = ky := by rw [← oy.b.ds.len, ← H.out.b.ds.len]
  obtain rfl : q = uy := by rw [← oy.r.len, ← H.out.r.len]
  have X2 := Lib.hid (X1.out.on b2)
  have C2 := Lib.hid (below_trans' C1.out b2)
  have O2 := Lib.hid oy.pl
  clear b2 oy X1 C1 q0 q1 q2
  go_wp2_with fail
  refine (specMayEnter_any _ _ _ _ _ _ _ _ _ P D R x y _ O2.out hn2 hk2 hq2).mono ?_
  rintro e w3 ⟨rfl, b3⟩
  have X3 := Lib.hid (X2.out.on b3)
  have C3 := Lib.hid (below_trans' C2.out b3)
  clear b3 X2 C2 O2
  obtain ⟨q0, q1, q2⟩ := X3.out.cells
  go_wp2_with fail
  refine (toPlan_any A B V n c k d q e0 P D R _ (H.out.on C3.out) hnk).mono ?_
  rintro e w4 ⟨Ax, nx, cx, Bx, kx, dx, Vx, ux, ex, mx, gx, rfl, ox, b4⟩
  obtain rfl : n = nx := by rw [← ox.b.ps.len, ← H.out.b.ps.len]
  obtain rfl : k = kx := by rw [← ox.b.ds.len, ← H.out.b.ds.len]
  obtain rfl : q = ux := by rw [← ox.r.len, ← H.out.r.len]
  have bA := (Below.refl w4.heap.size w4).alloc (Nat.le_refl _) (.cells #[.slice Ax n cx, .slice Bx k dx, .slice Vx q ex] 30)
  have X4 := Lib.hid ((X3.out.on b4).on bA)
  have C4 := Lib.hid (below_trans' (below_trans' C3.out b4) bA)
  have G4 := Lib.hid (Cell3.new w4 30 (.slice Ax n cx) (.slice Bx k dx) (.slice Vx q ex))
  have O4 := Lib.hid (ox.below bA)
  clear b4 bA ox X3 C3 q0 q1 q2
  obtain ⟨g0, g1, g2⟩ := G4.out.cells
  go_wp2_with fail
  refine (mayEnter_any _ _ _ _ _ _ _ _ _ P D R x y _ O4.out.pl hn2 hk2 hq2).mono ?_
  rintro e w5 ⟨rfl, b5⟩
  have X5 := Lib.hid (X4.out.on b5)
  have C5 := Lib.hid (below_trans' C4.out b5)
  have G5 := Lib.hid (G4.out.on b5)
  have O5 := Lib.hid (O4.out.below b5)
  clear b5 X4 C4 G4 O4 g0 g1 g2
  obtain ⟨q0, q1, q2⟩ := X5.out.cells
  obtain ⟨g0, g1, g2⟩ := G5.out.cells
  have d1 : (meV P D R x y != meV P D R x y) = false := by simp
  have d2 : (meE P D R x y != meE P D R x y) = false := by simp
  go_wp2
  go_region_held3 (fun w' => w'.cell? ⟨w.heap.size, 0, none⟩ = some (.slice A n c) ∧ w'.cell? ⟨w.heap.size, 1, none⟩ = some (.slice B k d) ∧ w'.cell? ⟨w.heap.size, 2, none⟩ = some (.slice V q e0) ∧ w'.cell? ⟨w4.heap.size, 0, none⟩ = some (.slice Ax n cx) ∧ w'.cell? ⟨w4.heap.size, 1, none⟩ = some (.slice Bx k dx) ∧ w'.cell? ⟨w4.heap.size, 2, none⟩ = some (.slice Vx q ex))
    (first
      | go_keep
      | (with_reducible exact E1.out)
      | (with_reducible exact E2.out))
    (first
      | (go_at_call 53; refine (toPlan_any A B V n c k d q e0 P D R _ (H.out.on (below_drewN C5.out 1)) hnk).mono ?_; rintro e wa ⟨Aa, na, ca, Ba, ka, da, Va, ua, ea, ma, ga, rfl, oa, ba⟩; (obtain rfl : n = na := by rw [← oa.b.ps.len, ← H.out.b.ps.len]); (obtain rfl : k = ka := by rw [← oa.b.ds.len, ← H.out.b.ds.len]); (obtain rfl : q = ua := by rw [← oa.r.len, ← H.out.r.len]); have bb1 := below_trans' (below_drewN (Below.refl _ _) 1) ba; have Xa := Lib.hid (X5.out.on bb1); have Ga := Lib.hid (G5.out.on bb1); have Ca := Lib.hid (below_trans' C5.out bb1); have Oa := Lib.hid oa.pl; have OXa := Lib.hid (O5.out.below bb1); have E1 := Lib.hid (both_cells3 Xa.out Ga.out))
      | (go_at_call 54; refine (eqPlan_true _ _ _ _ _ _ _ _ _ _ _ _ _ _ _ P D R _ OXa.out.pl Oa.out hnk).mono ?_; rintro e wb ⟨rfl, bb⟩; have Xb := Lib.hid (Xa.out.on bb); have Gb := Lib.hid (Ga.out.on bb); have Cb := Lib.hid (below_trans' Ca.out bb); have OXb := Lib.hid (OXa.out.below bb); have E2 := Lib.hid (both_cells3 Xb.out Gb.out)))
  all_goals
    have CE := Cb
    clear q0 q1 q2 g0 g1 g2
    go_wp2
    go_ret
    exact ⟨rfl, CE.out⟩

end Go.Proofs.Ytnadcjclihflcaa
