/- The law of AccessOf. -/
import Derived.Test.YtnadcjclihflcaaLPl
import Derived.Test.YtnadcjclihflcaaPlZ
import Derived.Test.YtnadcjclihflcaaPlAc
import Derived.Deep.RegionHeld3
namespace Go.Proofs.Ytnadcjclihflcaa
open Go.RowKit

theorem size_under {yss : List (List Int)} {b : Nat} (h : ∀ ys ∈ yss, ys.length ≤ b) : ∀ k, k ≤ yss.length → sizeAt yss k ≤ k * b := by
  intro k
  induction k with
  | zero => intro _; simp [sizeAt]
  | succ k ih =>
    intro hk
    have hy : yss[k]? = some yss[k] := List.getElem?_eq_getElem (by omega)
    rw [sizeAt_step hy]
    have h1 := ih (by omega)
    have h2 := h yss[k] (List.getElem_mem _)
    rw [Nat.succ_mul]
    omega
theorem ac_fit (P : List Int) (D : List Bool) (R : List (List Int)) : (acL P D R).length + sizeL (acL P D R) ≤ 1048576 := by
  rcases hp : planB P D R with _ | _
  · unfold acL; rw [hp]; simp [sizeL, sizeAt]
  · obtain ⟨hb, h1, h2, _⟩ := planB_true hp
    obtain ⟨_, _, n24, _⟩ := bld_tree hb
    have hl : (acL P D R).length ≤ 10 := by unfold acL; rw [hp, if_pos rfl, List.length_map]; exact h2
    have hs := size_under (yss := acL P D R) (b := 24) (fun ys hy => by
      unfold acL at hy
      rw [hp, if_pos rfl, List.mem_map] at hy
      obtain ⟨xs, _, rfl⟩ := hy
      unfold acRow
      rw [List.length_map]
      exact Nat.le_trans (amD_len _ _ _) n24) _ (Nat.le_refl _)
    have h3 : sizeL (acL P D R) ≤ (acL P D R).length * 24 := hs
    omega

set_option maxRecDepth 100000 in
set_option maxHeartbeats 4000000 in
theorem lawAccessOf_any (A : Option Addr) (n c : Nat) (B : Option Addr) (k d : Nat) (V : Option Addr) (q e0 : Nat) (P : List Int) (D : List Bool) (R : List (List Int)) (w : World) (h : Pl w A n B k V q P D R) (hn : n ≤ 9223372036854775807) (hk : k ≤ 9223372036854775807) (hq : q ≤ 9223372036854775807) :
    Calls Try.prog 8 #[.agg #[.slice A n c, .slice B k d, .slice V q e0]] w fun e w' => e = .returned (.bool true) ∧ Below w.heap.size w w' := by
  have c0 := (Below.refl w.heap.size w).alloc (Nat.le_refl _) (.cells #[.slice A n c, .slice B k d, .slice V q e0] 54)
  have X0 := Lib.hid (Cell3.new w 54 (.slice A n c) (.slice B k d) (.slice V q e0))
  have C0 := Lib.hid c0
  have H0 := Lib.hid (h.on c0)
  have H := Lib.hid h
  obtain ⟨q0, q1, q2⟩ := X0.out.cells
  clear c0 h
  go_enter Try.func8, Try.ntmps8
  go_wp2_with fail
  refine (szPlan_any A B V n c k d q e0 P D R _ H0.out hn hk hq).mono ?_
  rintro e w1 ⟨⟨r, rfl, hr⟩, b1⟩
  have X1 := Lib.hid (X0.out.on b1)
  have C1 := Lib.hid (below_trans' C0.out b1)
  have HR := Lib.hid hr
  clear b1 q0 q1 q2 hr X0 C0 H0
  by_cases h0 : r < 0
  · go_wp2
    go_ret
    exact ⟨rfl, C1.out⟩
  have hnk := HR.out (by omega)
  have hn2 : n ≤ 1048576 := by omega
  have hk2 : k ≤ 1048576 := by omega
  have hq2 : q + sizeL R ≤ 1048576 := by omega
  obtain ⟨q0, q1, q2⟩ := X1.out.cells
  have d2 : (pE P D R != pE P D R) = false := by simp
  go_wp2_with fail
  refine (toPlan_any A B V n c k d q e0 P D R _ (H.out.on C1.out) hnk).mono ?_
  rintro e w2 ⟨Ay, ny, cy, By, ky, dy, Vy, uy, ey, my, gy, rfl, oy, b2⟩
  obtain rfl : n = ny := by rw [← oy.b.ps.len, ← H.out.b.ps.len]
  obtain rfl : k = ky := by rw [← oy.b.ds.len, ← H.out.b.ds.len]
  obtain rfl : q = uy := by rw [← oy.r.len, ← H.out.r.len]
  have X2 := Lib.hid (X1.out.on b2)
  have C2 := Lib.hid (below_trans' C1.out b2)
  have O2 := Lib.hid oy.pl
  clear b2 oy X1 C1 q0 q1 q2
  go_wp2_with fail
  refine (specAccessOf_any _ _ _ _ _ _ _ _ _ P D R _ O2.out hn2 hk2 hq2).mono ?_
  rintro e w3 ⟨Aw, nw, cw, gw, rfl, ow, _, _, b3⟩
  have X3 := Lib.hid (X2.out.on b3)
  have C3 := Lib.hid (below_trans' C2.out b3)
  have W3 := Lib.hid ow.sets
  have NW := Lib.hid ow.len
  have lx : w.heap.size < w3.heap.size := X3.out.lt
  have hnw : nw + sizeL (acL P D R) ≤ 1048576 := by rw [← NW.out]; exact ac_fit P D R
  have hnw1 : nw ≤ 1048576 := by omega
  clear b3 X2 C2 O2 ow
  obtain ⟨q0, q1, q2⟩ := X3.out.cells
  go_wp2_with fail
  refine (toPlan_any A B V n c k d q e0 P D R _ (H.out.on C3.out) hnk).mono ?_
  rintro e w4 ⟨Ax, nx, cx, Bx, kx, dx, Vx, ux, ex, mx, gx, rfl, ox, b4⟩
  obtain rfl : n = nx := by rw [← ox.b.ps.len, ← H.out.b.ps.len]
  obtain rfl : k = kx := by rw [← ox.b.ds.len, ← H.out.b.ds.len]
  obtain rfl : q = ux := by rw [← ox.r.len, ← H.out.r.len]
  have bA := (Below.refl w4.heap.size w4).alloc (Nat.le_refl _) (.cells #[.slice Ax n cx, .slice Bx k dx, .slice Vx q ex] 30)
  have s4 := b4.size
  have F4 := Lib.hid (below_trans' b4 bA)
  have G4 := Lib.hid (Cell3.new w4 30 (.slice Ax n cx) (.slice Bx k dx) (.slice Vx q ex))
  have O4 := Lib.hid (ox.below bA)
  have hm4 : mx ≤ w4.heap.size := ox.r.low
  clear b4 bA ox q0 q1 q2
  obtain ⟨g0, g1, g2⟩ := G4.out.cells
  go_wp2_with fail
  refine (accessOf_any _ _ _ _ _ _ _ _ _ P D R _ O4.out.pl hn2 hk2 hq2).mono ?_
  rintro e w5 ⟨Ag, ng, cg, gg, rfl, og, _, _, b5⟩
  obtain rfl : nw = ng := by rw [← NW.out, ← og.len]
  rw [World.size_alloc] at og
  have s5 := b5.size
  rw [World.size_alloc] at s5
  have F5 := Lib.hid (below_trans' F4.out b5)
  have G5 := Lib.hid (G4.out.on b5)
  have O5 := Lib.hid (O4.out.below b5)
  have Y5 := Lib.hid og
  have TY := Lib.hid og.top
  clear b5 G4 O4 og F4 g0 g1 g2
  go_wp2_with fail
  refine (eqSets_true _ _ _ _ _ _ _ Y5.out.sets (W3.out.on F5.out) hnw).mono ?_
  rintro e w6 ⟨rfl, jj, hjj⟩
  have b6 : Below w5.heap.size w5 w6 := by rw [hjj]; exact below_drewN (Below.refl _ _) jj
  clear hjj
  have F6 := Lib.hid (below_trans' F5.out b6)
  have G6 := Lib.hid (G5.out.on b6)
  have O6 := Lib.hid (O5.out.below b6)
  have Y6 := Lib.hid (Y5.out.on b6)
  have X6 := Lib.hid (X3.out.on F6.out)
  have C6 := Lib.hid (below_trans' C3.out F6.out)
  clear b6 G5 O5 Y5 F5
  obtain ⟨q0, q1, q2⟩ := X6.out.cells
  obtain ⟨g0, g1, g2⟩ := G6.out.cells
  go_wp2
  go_region_held3 (fun w' => w'.cell? ⟨w.heap.size, 0, none⟩ = some (.slice A n c) ∧ w'.cell? ⟨w.heap.size, 1, none⟩ = some (.slice B k d) ∧ w'.cell? ⟨w.heap.size, 2, none⟩ = some (.slice V q e0) ∧ w'.cell? ⟨w4.heap.size, 0, none⟩ = some (.slice Ax n cx) ∧ w'.cell? ⟨w4.heap.size, 1, none⟩ = some (.slice Bx k dx) ∧ w'.cell? ⟨w4.heap.size, 2, none⟩ = some (.slice Vx q ex))
    (first
      | go_keep
      | (with_reducible exact E1.out)
      | (with_reducible exact E2.out))
    (first
      | (go_at_call 53; refine (toPlan_any A B V n c k d q e0 P D R _ (H.out.on (below_drewN C6.out 1)) hnk).mono ?_; rintro e wa ⟨Aa, na, ca, Ba, ka, da, Va, ua, ea, ma, ga, rfl, oa, ba⟩; (obtain rfl : n = na := by rw [← oa.b.ps.len, ← H.out.b.ps.len]); (obtain rfl : k = ka := by rw [← oa.b.ds.len, ← H.out.b.ds.len]); (obtain rfl : q = ua := by rw [← oa.r.len, ← H.out.r.len]); have bb1 := below_trans' (below_drewN (Below.refl _ _) 1) ba; have Xa := Lib.hid (X6.out.on bb1); have Ga := Lib.hid (G6.out.on bb1); have Ca := Lib.hid (below_trans' C6.out bb1); have Oa := Lib.hid oa.pl; have OXa := Lib.hid (O6.out.below bb1); have Fa := Lib.hid (below_trans' F6.out bb1); have Ya := Lib.hid (Y6.out.on bb1); have E1 := Lib.hid (both_cells3 Xa.out Ga.out))
      | (go_at_call 54; refine (eqPlan_true _ _ _ _ _ _ _ _ _ _ _ _ _ _ _ P D R _ OXa.out.pl Oa.out hnk).mono ?_; rintro e wb ⟨rfl, bb⟩; have Xb := Lib.hid (Xa.out.on bb); have Gb := Lib.hid (Ga.out.on bb); have Cb := Lib.hid (below_trans' Ca.out bb); have OXb := Lib.hid (OXa.out.below bb); have Fb := Lib.hid (below_trans' Fa.out bb); have Yb := Lib.hid (Ya.out.on bb); have E2 := Lib.hid (both_cells3 Xb.out Gb.out)))
  clear q0 q1 q2 g0 g1 g2 X6 C6 G6 O6 Y6 F6 E1 E2 Xa Ga Ca Oa OXa Fa Ya oa ba bb bb1
  obtain ⟨q0, q1, q2⟩ := Xb.out.cells
  obtain ⟨g0, g1, g2⟩ := Gb.out.cells
  obtain ⟨rr0, rr1⟩ := rAt_range (k := 1 + (n : Int) + (k : Int)) (yss := R) (i := q) (by omega) (by omega) (by omega) (by rw [H.out.r.len]; exact Nat.le_refl _)
  have hz1 : ¬ (rAt (1 + (n : Int) + (k : Int)) R q < 0) := by omega
  go_wp2_with fail
  refine (markPlan_any Ax Bx Vx n cx k dx q ex _ _ _ _ P D R 1 _ OXb.out (Nat.le_of_lt Gb.out.lt) hm4 hnk (by omega) (by omega)).mono ?_
  rintro e w7 ⟨rfl, _, a7⟩
  have hl3 : w3.heap.size ≤ wb.heap.size := Fb.out.size
  have F7 := Lib.hid (Fb.out.trans (a7.below hl3))
  have Y7 := Lib.hid (Yb.out.past a7 (by omega))
  clear q0 q1 q2 g0 g1 g2 a7 Xb Gb Cb OXb Yb Fb
  go_wp2_with fail
  refine (eqSets_true _ _ _ _ _ _ _ Y7.out.sets (W3.out.on F7.out) hnw).mono ?_
  rintro e w8 ⟨rfl, jj, hjj⟩
  have b8 : Below w7.heap.size w7 w8 := by rw [hjj]; exact below_drewN (Below.refl _ _) jj
  clear hjj
  have F8 := Lib.hid (below_trans' F7.out b8)
  have Y8 := Lib.hid (Y7.out.on b8)
  clear b8 Y7 F7
  go_wp2_with fail
  refine (markRag_any _ _ _ _ _ _ 1 _ Y8.out hnw (by omega) (by omega)).mono ?_
  rintro e w9 ⟨rfl, og9, a9⟩
  have F9 := Lib.hid (F8.out.trans ((a9 _ TY.out).below' F8.out.size (by omega)))
  have Y9 := Lib.hid og9.sets
  clear a9 og9 F8 Y8
  obtain ⟨rm0, rm1⟩ := rAt_range (k := 1) (yss := acL P D R) (i := nw) (by omega) (by omega) (by omega) (by rw [NW.out]; exact Nat.le_refl _)
  have hz9 : ¬ (rAt 1 (acL P D R) nw < 0) := by omega
  go_wp2_with fail
  refine (heldSets_any _ _ _ _ 1 _ Y9.out hnw (by omega) (by omega)).mono ?_
  rintro e w' ⟨rfl, rfl⟩
  have X9 := Lib.hid (X3.out.on F9.out)
  have C9 := Lib.hid (below_trans' C3.out F9.out)
  obtain ⟨q0, q1, q2⟩ := X9.out.cells
  have d5 : ((rAt 1 (acL P D R) nw) != (rAt 1 (acL P D R) nw)) = false := by simp
  go_wp2_with fail
  refine (toPlan_any A B V n c k d q e0 P D R _ (H.out.on C9.out) hnk).mono ?_
  rintro e w10 ⟨Az, nz, cz, Bz, kz, dz, Vz, uz, ez, mz, gz, rfl, oz, b10⟩
  obtain rfl : n = nz := by rw [← oz.b.ps.len, ← H.out.b.ps.len]
  obtain rfl : k = kz := by rw [← oz.b.ds.len, ← H.out.b.ds.len]
  obtain rfl : q = uz := by rw [← oz.r.len, ← H.out.r.len]
  have F10 := Lib.hid (below_trans' F9.out b10)
  have C10 := Lib.hid (below_trans' C9.out b10)
  have O10 := Lib.hid oz.pl
  have Y10 := Lib.hid (Y9.out.on b10)
  clear b10 oz q0 q1 q2 X9 C9 Y9 F9
  go_wp2_with fail
  refine (accessOf_any _ _ _ _ _ _ _ _ _ P D R _ O10.out hn2 hk2 hq2).mono ?_
  rintro e w11 ⟨Ah, nh, ch, gh, rfl, oh, _, _, b11⟩
  obtain rfl : nw = nh := by rw [← NW.out, ← oh.len]
  have F11 := Lib.hid (below_trans' F10.out b11)
  have C11 := Lib.hid (below_trans' C10.out b11)
  have Y11 := Lib.hid (Y10.out.on b11)
  have Z11 := Lib.hid oh.sets
  clear b11 oh C10 Y10 O10 F10
  go_wp2_with fail
  refine (eqSets_true _ _ _ _ _ _ _ Z11.out (W3.out.on F11.out) hnw).mono ?_
  rintro e w12 ⟨rfl, jj, hjj⟩
  have b12 : Below w11.heap.size w11 w12 := by rw [hjj]; exact below_drewN (Below.refl _ _) jj
  clear hjj
  have C12 := Lib.hid (below_trans' C11.out b12)
  have Y12 := Lib.hid (Y11.out.on b12)
  clear b12 C11 Y11 Z11 F11
  go_wp2_with fail
  refine (heldSets_any _ _ _ _ 1 _ Y12.out hnw (by omega) (by omega)).mono ?_
  rintro e w' ⟨rfl, rfl⟩
  go_wp2
  go_ret
  exact ⟨rfl, C12.out⟩

end Go.Proofs.Ytnadcjclihflcaa
