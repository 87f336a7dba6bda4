/- The law that a key may enter exactly its doors, and a door is entered by exactly its keys. -/
import Derived.Test.YtnadcjclihflcaaFnAnc
import Derived.Test.YtnadcjclihflcaaDrawPM
import Derived.Test.YtnadcjclihflcaaLockW
import Derived.Test.YtnadcjclihflcaaPlAc
import Derived.Test.YtnadcjclihflcaaPlMe
import Derived.Test.YtnadcjclihflcaaPlKf
import Derived.Test.YtnadcjclihflcaaPlV
import Derived.Test.YtnadcjclihflcaaPlZ
namespace Go.Proofs.Ytnadcjclihflcaa
open Go Go.RowKit

theorem sizeP_le {b : Nat} (xss : List (List Int)) (h : ∀ x ∈ xss, x.length ≤ b) : sizeL xss ≤ xss.length * b := by
  have : ∀ k, k ≤ xss.length → sizeAt xss k ≤ k * b := by
    intro k
    induction k with
    | zero => intro _; exact Nat.zero_le _
    | succ k ih =>
      intro hk
      have h1 := ih (by omega)
      have hx : xss[k]? = some xss[k] := List.getElem?_eq_getElem (by omega)
      rw [sizeAt_step hx, Nat.add_mul, Nat.one_mul]
      have := h _ (List.getElem_mem (by omega : k < xss.length))
      omega
  exact this _ (Nat.le_refl _)
/-- a drawn plan is small -/
theorem pm_size {q : Nat} {R : List (List Int)} (hl : R.length = q) (hq : q ≤ 11) (h : ∀ ys ∈ R, ys.length ≤ 64) : q + sizeL R ≤ 1048576 := by
  have := sizeP_le R h
  have : R.length * 64 ≤ 11 * 64 := Nat.mul_le_mul_right _ (by omega)
  omega
theorem ac_size {P : List Int} {D : List Bool} {R : List (List Int)} (hq : R.length ≤ 11) (hP : P.length ≤ 64) : (acL P D R).length + sizeL (acL P D R) ≤ 1048576 := by
  have h1 : (acL P D R).length ≤ 11 := by
    unfold acL; split
    · rw [List.length_map]; exact hq
    · simp
  have h2 : ∀ ys ∈ acL P D R, ys.length ≤ 64 := fun ys hy => by
    unfold acL at hy; split at hy
    · obtain ⟨xs, _, rfl⟩ := List.mem_map.1 hy
      unfold acRow
      rw [List.length_map]
      exact Nat.le_trans (amD_len _ _ _) hP
    · simp at hy
  have := sizeP_le _ h2
  have : (acL P D R).length * 64 ≤ 11 * 64 := Nat.mul_le_mul_right _ h1
  omega
/-- where both stand: a key and a door -/
theorem me_zero {P : List Int} {D : List Bool} {R : List (List Int)} {k x : Int} (h : meE P D R k x = 0) : planB P D R = true ∧ isKy R k = true ∧ isDr P D x = true := by
  unfold meE at h
  rcases h1 : planB P D R with _ | _
  · rw [h1] at h; simp at h
  rw [h1] at h
  rcases h2 : isKy R k with _ | _
  · rw [h2] at h; simp at h
  rcases h3 : isDr P D x with _ | _
  · rw [h2, h3] at h; simp at h
  exact ⟨rfl, rfl, rfl⟩
theorem me_codes {P : List Int} {D : List Bool} {R : List (List Int)} {k x : Int} (h : meE P D R k x = 0) : pkE P D R k = 0 ∧ pdE P D R x = 0 := by
  obtain ⟨h1, h2, h3⟩ := me_zero h
  unfold pkE pdE
  rw [h1, h2, h3]; exact ⟨rfl, rfl⟩
theorem me_doors {P : List Int} {D : List Bool} {R : List (List Int)} {k x : Int} (h : meE P D R k x = 0) : hasI (dfL P D R k) x = meV P D R k x := by
  obtain ⟨h1, h2, h3⟩ := me_zero h
  unfold dfL
  rw [(me_codes h).1, if_pos rfl]
  unfold meV hasI
  rw [h]
  unfold isDr at h3
  rw [Bool.and_eq_true, inB_true] at h3
  obtain ⟨⟨x0, xn⟩, hd⟩ := h3
  obtain ⟨X, rfl⟩ := Int.eq_ofNat_of_zero_le x0
  rw [Int.toNat_natCast] at hd ⊢
  rw [Bool.eq_iff_iff, decide_eq_true_iff, amD_mem]
  constructor
  · rintro ⟨i, _, e, _, hu⟩
    have e' : X = i := by omega
    subst e'
    simpa using hu
  · intro hu
    exact ⟨X, by omega, rfl, hd, by simpa using hu⟩
theorem me_keys {P : List Int} {D : List Bool} {R : List (List Int)} {k x : Int} (h : meE P D R k x = 0) : hasI (kfL P D R x) k = meV P D R k x := by
  obtain ⟨h1, h2, h3⟩ := me_zero h
  unfold kfL
  rw [(me_codes h).2, if_pos rfl]
  unfold meV hasI keysTo
  rw [h]
  unfold isKy at h2
  rw [inB_true] at h2
  obtain ⟨k0, kn⟩ := h2
  obtain ⟨K, rfl⟩ := Int.eq_ofNat_of_zero_le k0
  rw [Bool.eq_iff_iff, decide_eq_true_iff, List.mem_map]
  unfold riN
  rw [Int.toNat_natCast]
  constructor
  · rintro ⟨i, hi, e⟩
    have e' : i = K := by omega
    subst e'
    have := (List.mem_filter.1 hi).2
    simpa using this
  · intro hu
    exact ⟨K, List.mem_filter.2 ⟨List.mem_range.2 (by omega), by simpa using hu⟩, rfl⟩
theorem plan_code (P : List Int) (D : List Bool) (R : List (List Int)) : (!planB P D R == (pE P D R == 0)) = false := by
  unfold pE; cases planB P D R <;> rfl

/-- what the law keeps of a drawn plan -/
structure PA (w W : World) (b3 : Nat) (A1 : Option Addr) (m c1 : Nat) (A2 : Option Addr) (k c2 : Nat) (V : Option Addr) (q cq : Nat) (P : List Int) (D : List Bool) (R : List (List Int)) : Prop where
  bx : Cell3 W b3 30 (.slice A1 m c1) (.slice A2 k c2) (.slice V q cq)
  o : Pl W A1 m A2 k V q P D R
  b : Below w.heap.size w W
theorem PA.on {w W W' : World} {b3 : Nat} {A1 : Option Addr} {m c1 : Nat} {A2 : Option Addr} {k c2 : Nat} {V : Option Addr} {q cq : Nat} {P : List Int} {D : List Bool} {R : List (List Int)} (h : PA w W b3 A1 m c1 A2 k c2 V q cq P D R) (hb : Below W.heap.size W W') : PA w W' b3 A1 m c1 A2 k c2 V q cq P D R := ⟨h.bx.on hb, h.o.on hb, below_trans' h.b hb⟩
theorem PA.new {w W : World} {A1 : Option Addr} {m c1 : Nat} {A2 : Option Addr} {k c2 : Nat} {V : Option Addr} {q cq : Nat} {P : List Int} {D : List Bool} {R : List (List Int)} (o : Pl W A1 m A2 k V q P D R) (b : Below w.heap.size w W) : PA w (W.alloc (.cells #[.slice A1 m c1, .slice A2 k c2, .slice V q cq] 30)) W.heap.size A1 m c1 A2 k c2 V q cq P D R :=
  ⟨Cell3.new W _ _ _ _, o.alloc _, b.alloc b.size _⟩
/-- two lists that both sides answer -/
structure Two (W : World) (Ad Am : Option Addr) (n : Nat) (xs : List Int) : Prop where
  a : Ints W W.heap.size Ad n xs
  b : Ints W W.heap.size Am n xs
  n : n ≤ 1048576
theorem Two.on {W W' : World} {Ad Am : Option Addr} {n : Nat} {xs : List Int} (h : Two W Ad Am n xs) (hb : Below W.heap.size W W') : Two W' Ad Am n xs := ⟨h.a.on hb, h.b.on hb, h.n⟩
structure TwoS (W : World) (Ad Am : Option Addr) (n : Nat) (xs : List (List Int)) : Prop where
  a : Sets W W.heap.size Ad n xs
  b : Sets W W.heap.size Am n xs
theorem TwoS.on {W W' : World} {Ad Am : Option Addr} {n : Nat} {xs : List (List Int)} (h : TwoS W Ad Am n xs) (hb : Below W.heap.size W W') : TwoS W' Ad Am n xs := ⟨h.a.on hb, h.b.on hb⟩

set_option maxRecDepth 100000 in
set_option maxHeartbeats 8000000 in
theorem fnAccess_any (A : Option Addr) (n c : Nat) (w : World) (h : Bts w w.heap.size A n) :
    Calls Try.prog 3 #[.slice A n c] w fun e w' => e = .returned (.bool true) ∧ Below w.heap.size w w' := by
  by_cases hn : n ≤ 4096
  rotate_left
  · have d0 : decide (4096 < (n : Int)) = true := by simp; omega
    go_enter Try.func3, Try.ntmps3
    go_wp2_with fail
    refine (big_any _ _ _ _).mono ?_
    rintro e w' ⟨rfl, rfl⟩
    rw [d0]
    clear d0
    go_wp2
    go_ret
    exact ⟨rfl, Below.refl _ _⟩
  have d0 : decide (4096 < (n : Int)) = false := by simp; omega
  have HB := Lib.hid h
  clear h
  go_enter Try.func3, Try.ntmps3
  go_wp2_with fail
  refine (big_any _ _ _ _).mono ?_
  rintro e w' ⟨rfl, rfl⟩
  rw [d0]
  clear d0
  go_wp2_with fail
  refine (drawAccessOf_any w.heap.size A n c w HB.out (Nat.le_refl _) hn).mono ?_
  rintro e w1 ⟨A1a, ma, c1a, A2a, ka, c2a, Va, qa, cqa, Pa, Da, Ra, rfl, o1, hma, hka, hqa, hRa, b1⟩
  have HRa := Lib.hid hRa
  have hmma : ma ≤ 1048576 := by omega
  have hkka : ka ≤ 1048576 := by omega
  have hsza : qa + sizeL Ra ≤ 1048576 := pm_size o1.r.1 hqa hRa
  have BXa : Below w.heap.size w w1 := b1
  have bAa := (Below.refl w1.heap.size w1).alloc (Nat.le_refl _) (.cells #[.slice A1a ma c1a, .slice A2a ka c2a, .slice Va qa cqa] 30)
  have HSa := Lib.hid (And.intro o1.r.1 o1.ps.1.len)
  have Fa1 := Lib.hid (PA.new (w := w) (c1 := c1a) (c2 := c2a) (cq := cqa) o1.pl BXa)
  clear o1 b1 bAa BXa hRa 
  obtain ⟨q0, q1, q2⟩ := Fa1.out.bx.cells
  go_wp2_with fail
  refine (accessOf_any A1a A2a Va ma c1a ka c2a qa cqa Pa Da Ra _ Fa1.out.o hmma hkka hsza).mono ?_
  rintro e w2 ⟨Vaa, na, ca, ga, rfl, oa, _, _, b2⟩
  have Fa2 := Lib.hid (Fa1.out.on b2)
  have Sa2 := Lib.hid oa.sets
  clear oa
  clear b2 q0 q1 q2 Fa1
  obtain ⟨q0, q1, q2⟩ := Fa2.out.bx.cells
  go_wp2_with fail
  refine (specAccessOf_any A1a A2a Va ma c1a ka c2a qa cqa Pa Da Ra _ Fa2.out.o hmma hkka hsza).mono ?_
  rintro e w3 ⟨Vm, nm, cm, gm, rfl, om, _, _, b3⟩
  have Fa3 := Lib.hid (Fa2.out.on b3)
  obtain rfl : na = nm := by have h1 := Sa2.out.1; have h2 := om.sets.1; omega
  have SS3 := Lib.hid (TwoS.mk (Sa2.out.on b3) om.sets)
  clear om Sa2
  clear b3 q0 q1 q2 Fa2
  have HB3 := Lib.hid (HB.out.keep (w' := w3) (fun p hp => Fa3.out.b.cell hp))
  have BB3 := Fa3.out.b
  go_wp2_with fail
  refine (drawMayEnter_any w.heap.size A n c w3 HB3.out Fa3.out.b.size hn).mono ?_
  rintro e w4 ⟨A1x, mx, c1x, A2x, kx, c2x, Vx, qx, cqx, Px, Dx, Rx, key, door, rfl, o4, hmx, hkx, hqx, hRx, b4⟩
  have HRx := Lib.hid hRx
  have hmmx : mx ≤ 1048576 := by omega
  have hkkx : kx ≤ 1048576 := by omega
  have hszx : qx + sizeL Rx ≤ 1048576 := pm_size o4.r.1 hqx hRx
  have BXx : Below w.heap.size w w4 := below_trans' BB3 b4
  have bAx := (Below.refl w4.heap.size w4).alloc (Nat.le_refl _) (.cells #[.slice A1x mx c1x, .slice A2x kx c2x, .slice Vx qx cqx] 30)
  have HSx := Lib.hid (And.intro o4.r.1 o4.ps.1.len)
  have Fa4 := Lib.hid (Fa3.out.on (below_trans' b4 bAx))
  have SS4 := Lib.hid (SS3.out.on (below_trans' b4 bAx))
  have Fx4 := Lib.hid (PA.new (w := w) (c1 := c1x) (c2 := c2x) (cq := cqx) o4.pl BXx)
  clear o4 b4 bAx BXx hRx Fa3 SS3
  obtain ⟨q0, q1, q2⟩ := Fx4.out.bx.cells
  go_wp2_with fail
  refine (mayEnter_any A1x A2x Vx mx c1x kx c2x qx cqx Px Dx Rx key door _ Fx4.out.o hmmx hkkx hszx).mono ?_
  rintro e w5 ⟨rfl, b5⟩
  have Fa5 := Lib.hid (Fa4.out.on b5)
  have SS5 := Lib.hid (SS4.out.on b5)
  have Fx5 := Lib.hid (Fx4.out.on b5)
  clear b5 q0 q1 q2 Fa4 SS4 Fx4
  obtain ⟨q0, q1, q2⟩ := Fx5.out.bx.cells
  go_wp2_with fail
  refine (specMayEnter_any A1x A2x Vx mx c1x kx c2x qx cqx Px Dx Rx key door _ Fx5.out.o hmmx hkkx hszx).mono ?_
  rintro e w6 ⟨rfl, b6⟩
  have Fa6 := Lib.hid (Fa5.out.on b6)
  have SS6 := Lib.hid (SS5.out.on b6)
  have Fx6 := Lib.hid (Fx5.out.on b6)
  clear b6 q0 q1 q2 Fa5 SS5 Fx5
  clear HB3 BB3
  have HB6 := Lib.hid (HB.out.keep (w' := w6) (fun p hp => Fx6.out.b.cell hp))
  have BB6 := Fx6.out.b
  go_wp2_with fail
  refine (drawDoorsFor_any w.heap.size A n c w6 HB6.out Fx6.out.b.size hn).mono ?_
  rintro e w7 ⟨A1y, my, c1y, A2y, ky, c2y, Vy, qy, cqy, Py, Dy, Ry, who, rfl, o7, hmy, hky, hqy, hRy, b7⟩
  have HRy := Lib.hid hRy
  have hmmy : my ≤ 1048576 := by omega
  have hkky : ky ≤ 1048576 := by omega
  have hszy : qy + sizeL Ry ≤ 1048576 := pm_size o7.r.1 hqy hRy
  have BXy : Below w.heap.size w w7 := below_trans' BB6 b7
  have bAy := (Below.refl w7.heap.size w7).alloc (Nat.le_refl _) (.cells #[.slice A1y my c1y, .slice A2y ky c2y, .slice Vy qy cqy] 30)
  have HSy := Lib.hid (And.intro o7.r.1 o7.ps.1.len)
  have Fa7 := Lib.hid (Fa6.out.on (below_trans' b7 bAy))
  have SS7 := Lib.hid (SS6.out.on (below_trans' b7 bAy))
  have Fx7 := Lib.hid (Fx6.out.on (below_trans' b7 bAy))
  have Fy7 := Lib.hid (PA.new (w := w) (c1 := c1y) (c2 := c2y) (cq := cqy) o7.pl BXy)
  clear o7 b7 bAy BXy hRy Fa6 SS6 Fx6
  obtain ⟨q0, q1, q2⟩ := Fy7.out.bx.cells
  go_wp2_with fail
  refine (doorsFor_any A1y A2y Vy my c1y ky c2y qy cqy Py Dy Ry who _ Fy7.out.o hmmy hkky hszy).mono ?_
  rintro e w8 ⟨Ad, nd, cd, rfl, od, hnd, _, _, b8⟩
  have Fa8 := Lib.hid (Fa7.out.on b8)
  have SS8 := Lib.hid (SS7.out.on b8)
  have Fx8 := Lib.hid (Fx7.out.on b8)
  have Fy8 := Lib.hid (Fy7.out.on b8)
  have Da8 := Lib.hid od.ints
  clear od
  clear b8 q0 q1 q2 Fa7 SS7 Fx7 Fy7
  obtain ⟨q0, q1, q2⟩ := Fy8.out.bx.cells
  go_wp2_with fail
  refine (specDoorsFor_any A1y A2y Vy my c1y ky c2y qy cqy Py Dy Ry who _ Fy8.out.o hmmy hkky hszy).mono ?_
  rintro e w9 ⟨Ae, ne, ce, rfl, oe, hne, _, _, b9⟩
  have Fa9 := Lib.hid (Fa8.out.on b9)
  have SS9 := Lib.hid (SS8.out.on b9)
  have Fx9 := Lib.hid (Fx8.out.on b9)
  have Fy9 := Lib.hid (Fy8.out.on b9)
  obtain rfl : nd = ne := by rw [← Da8.out.len, ← oe.len]
  have TD9 := Lib.hid (Two.mk (Da8.out.on b9) oe.ints hnd)
  clear oe Da8
  clear b9 q0 q1 q2 Fa8 SS8 Fx8 Fy8
  clear HB6 BB6
  have HB9 := Lib.hid (HB.out.keep (w' := w9) (fun p hp => Fx9.out.b.cell hp))
  have BB9 := Fx9.out.b
  clear Fy9
  go_wp2_with fail
  refine (drawKeysFor_any w.heap.size A n c w9 HB9.out Fx9.out.b.size hn).mono ?_
  rintro e w10 ⟨A1z, mz, c1z, A2z, kz, c2z, Vz, qz, cqz, Pz, Dz, Rz, dor1, rfl, o10, hmz, hkz, hqz, hRz, b10⟩
  have HRz := Lib.hid hRz
  have hmmz : mz ≤ 1048576 := by omega
  have hkkz : kz ≤ 1048576 := by omega
  have hszz : qz + sizeL Rz ≤ 1048576 := pm_size o10.r.1 hqz hRz
  have BXz : Below w.heap.size w w10 := below_trans' BB9 b10
  have bAz := (Below.refl w10.heap.size w10).alloc (Nat.le_refl _) (.cells #[.slice A1z mz c1z, .slice A2z kz c2z, .slice Vz qz cqz] 30)
  have HSz := Lib.hid (And.intro o10.r.1 o10.ps.1.len)
  have Fa10 := Lib.hid (Fa9.out.on (below_trans' b10 bAz))
  have SS10 := Lib.hid (SS9.out.on (below_trans' b10 bAz))
  have Fx10 := Lib.hid (Fx9.out.on (below_trans' b10 bAz))
  have TD10 := Lib.hid (TD9.out.on (below_trans' b10 bAz))
  have Fz10 := Lib.hid (PA.new (w := w) (c1 := c1z) (c2 := c2z) (cq := cqz) o10.pl BXz)
  clear o10 b10 bAz BXz hRz Fa9 SS9 Fx9 TD9
  obtain ⟨q0, q1, q2⟩ := Fz10.out.bx.cells
  go_wp2_with fail
  refine (keysFor_any A1z A2z Vz mz c1z kz c2z qz cqz Pz Dz Rz dor1 _ Fz10.out.o hmmz hkkz hszz).mono ?_
  rintro e w11 ⟨Af, nf, cf, rfl, of, hnf, _, _, b11⟩
  have Fa11 := Lib.hid (Fa10.out.on b11)
  have SS11 := Lib.hid (SS10.out.on b11)
  have Fx11 := Lib.hid (Fx10.out.on b11)
  have TD11 := Lib.hid (TD10.out.on b11)
  have Fz11 := Lib.hid (Fz10.out.on b11)
  have Ka11 := Lib.hid of.ints
  clear of
  clear b11 q0 q1 q2 Fa10 SS10 Fx10 TD10 Fz10
  obtain ⟨q0, q1, q2⟩ := Fz11.out.bx.cells
  go_wp2_with fail
  refine (specKeysFor_any A1z A2z Vz mz c1z kz c2z qz cqz Pz Dz Rz dor1 _ Fz11.out.o hmmz hkkz hszz).mono ?_
  rintro e w12 ⟨Ag, ng, cg, rfl, og, hng, _, _, b12⟩
  have Fa12 := Lib.hid (Fa11.out.on b12)
  have SS12 := Lib.hid (SS11.out.on b12)
  have Fx12 := Lib.hid (Fx11.out.on b12)
  have TD12 := Lib.hid (TD11.out.on b12)
  have Fz12 := Lib.hid (Fz11.out.on b12)
  obtain rfl : nf = ng := by rw [← Ka11.out.len, ← og.len]
  have TK12 := Lib.hid (Two.mk (Ka11.out.on b12) og.ints hnf)
  clear og Ka11
  clear b12 q0 q1 q2 Fa11 SS11 Fx11 TD11 Fz11
  clear HB9 BB9
  clear Fz12
  have d1 : (pE Pa Da Ra != pE Pa Da Ra) = false := by simp
  have d2 : (meE Px Dx Rx key door != meE Px Dx Rx key door) = false := by simp
  have d3 : (meV Px Dx Rx key door != meV Px Dx Rx key door) = false := by simp
  have d4 : (pkE Py Dy Ry who != pkE Py Dy Ry who) = false := by simp
  have d5 : (pdE Pz Dz Rz dor1 != pdE Pz Dz Rz dor1) = false := by simp
  have d6 := plan_code Pa Da Ra
  have HSZ := Lib.hid (ac_size (P := Pa) (D := Da) (R := Ra) (by have := HSa.out.1; omega) (by have := HSa.out.2; omega))
  go_wp2_with fail
  refine (likeSets_true _ _ _ _ _ _ _ SS12.out.a SS12.out.b (by have h1 := SS12.out.a.1; have h2 := HSZ.out; omega)).mono ?_
  rintro e w13 ⟨rfl, qq, e13⟩
  have b13 : Below w12.heap.size w12 w13 := by rw [e13]; exact below_drewN (Below.refl _ _) qq
  clear SS12
  have Fa13 := Lib.hid (Fa12.out.on b13)
  have Fx13 := Lib.hid (Fx12.out.on b13)
  have TD13 := Lib.hid (TD12.out.on b13)
  have TK13 := Lib.hid (TK12.out.on b13)
  clear b13 e13 Fa12 Fx12 TD12 TK12
  go_wp2_with fail
  refine (likeInts_true _ _ _ _ _ _ _ TD13.out.a TD13.out.b TD13.out.n).mono ?_
  rintro e w14 ⟨rfl, b14⟩
  clear TD13
  have Fa14 := Lib.hid (Fa13.out.on b14)
  have Fx14 := Lib.hid (Fx13.out.on b14)
  have TK14 := Lib.hid (TK13.out.on b14)
  clear b14 Fa13 Fx13 TK13
  go_wp2_with fail
  refine (likeInts_true _ _ _ _ _ _ _ TK14.out.a TK14.out.b TK14.out.n).mono ?_
  rintro e w15 ⟨rfl, b15⟩
  clear TK14
  have Fa15 := Lib.hid (Fa14.out.on b15)
  have Fx15 := Lib.hid (Fx14.out.on b15)
  clear b15 Fa14 Fx14
  obtain ⟨q0, q1, q2⟩ := Fa15.out.bx.cells
  go_wp2_with fail
  refine (isPlan_any A1a A2a Va ma c1a ka c2a qa cqa Pa Da Ra _ Fa15.out.o hmma hkka hsza).mono ?_
  rintro e w16 ⟨rfl, b16⟩
  skip -- Fa15
  have Fx16 := Lib.hid (Fx15.out.on b16)
  clear b16 q0 q1 q2 Fa15 Fx15
  obtain ⟨z, hz⟩ : ∃ z, meE Px Dx Rx key door = z := ⟨_, rfl⟩
  have HZ := Lib.hid hz
  rw [hz] at d2 ⊢
  by_cases hz0 : z = 0
  rotate_left
  · have ht : (z != 0) = true := by simpa using hz0
    clear hz0
    go_wp2
    go_ret
    exact ⟨rfl, Fx16.out.b⟩
  subst hz0
  obtain ⟨v, hv⟩ : ∃ v, meV Px Dx Rx key door = v := ⟨_, rfl⟩
  have HD := Lib.hid ((me_doors hz).trans hv)
  have HK := Lib.hid ((me_keys hz).trans hv)
  have HE := Lib.hid (me_codes hz)
  rw [hv] at d3 ⊢
  clear hz hv
  obtain ⟨q0, q1, q2⟩ := Fx16.out.bx.cells
  go_wp2_with fail
  refine (doorsFor_any A1x A2x Vx mx c1x kx c2x qx cqx Px Dx Rx key _ Fx16.out.o hmmx hkkx hszx).mono ?_
  rw [HE.out.1]
  rintro e w17 ⟨Ah, nh, ch, rfl, oh, hnh, _, _, b17⟩
  have Fx17 := Lib.hid (Fx16.out.on b17)
  have L17 := Lib.hid oh.ints
  clear oh
  clear b17 q0 q1 q2 Fx16
  obtain ⟨q0, q1, q2⟩ := Fx17.out.bx.cells
  go_wp2_with fail
  refine (keysFor_any A1x A2x Vx mx c1x kx c2x qx cqx Px Dx Rx door _ Fx17.out.o hmmx hkkx hszx).mono ?_
  rw [HE.out.2]
  rintro e w18 ⟨Ai, ni, ci, rfl, oi, hni, _, _, b18⟩
  have Fx18 := Lib.hid (Fx17.out.on b18)
  have L18 := Lib.hid (L17.out.on b18)
  have M18 := Lib.hid oi.ints
  clear oi
  clear b18 q0 q1 q2 Fx17 L17
  have dv : (v == v) = true := by simp
  go_wp2_with fail
  refine (hasInt_is _ _ _ _ _ v HD.out _ L18.out hnh).mono ?_
  rintro e w' ⟨rfl, rfl⟩
  go_wp2_with fail
  refine (hasInt_is _ _ _ _ _ v HK.out _ M18.out hni).mono ?_
  rintro e w' ⟨rfl, rfl⟩
  go_wp2
  go_ret
  exact ⟨rfl, Fx18.out.b⟩

end Go.Proofs.Ytnadcjclihflcaa
