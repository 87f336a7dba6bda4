/- The law of distances: its walk. -/
import Derived.Test.YtpbimekfhdgdoaaDrawD
import Derived.Test.YtpbimekfhdgdoaaSame
import Derived.Test.YtpbimekfhdgdoaaKeyMore
namespace Go.Proofs.Ytpbimekfhdgdoaa
open Go Go.RowKit

theorem dist_mir {m : Mk} {xs ys : List Int} (hl : xs.length = ys.length) : distI (mirL m xs) (mirL m ys) = distI xs ys := by
  unfold distI distTo
  rw [mirL_len]
  refine sumN_congr (fun j hj => ?_)
  rw [getD_mir hj, getD_mir (by omega), ← absI_neg]
  congr 1
  omega
theorem kt_of_key {m : Mk} {xs : List Int} (hm : m.ok = true) (h : isKeyB m xs = true) : ktE m xs = 0 ∧ mkL m xs = mirL m xs :=
  ⟨(kt_yes hm h).2, mk_yes (kt_yes hm h).2⟩
theorem two_code' {m : Mk} {xs ys : List Int} (hm : m.ok = true) (h1 : isKeyB m xs = true) (h2 : isKeyB m ys = true) : codeF m [xs, ys] = 0 :=
  code_yes hm (by simp [h1, h2])
theorem dist_laws {m : Mk} {xs ys : List Int} (h : codeF m [xs, ys] = 0) :
    codeF m [ys, xs] = 0 ∧ dsV m ys xs = dsV m xs ys ∧ (ktE m xs = 0 ∧ mkL m xs = mirL m xs) ∧ (ktE m ys = 0 ∧ mkL m ys = mirL m ys) ∧ codeF m [mirL m xs, mirL m ys] = 0 ∧ dsV m (mirL m xs) (mirL m ys) = dsV m xs ys ∧ True ∧ dfV m xs ys ≤ dsV m xs ys ∧ ((dfV m xs ys == 0) == decide (xs = ys)) = true := by
  obtain ⟨hm, h1, h2⟩ := two_keys h
  obtain ⟨_, _, hl, _, _⟩ := two_len h
  have a1 := two_code' hm h2 h1
  have a2 := two_code' hm (mir_key h1) (mir_key h2)
  refine ⟨a1, ?_, kt_of_key hm h1, kt_of_key hm h2, a2, ?_, trivial, ?_, ?_⟩
  · rw [ds_yes h, ds_yes a1, distI_comm hl]
  · rw [ds_yes h, ds_yes a2, dist_mir hl]
  · rw [ds_yes h, df_yes h]; exact diff_le_dist _ _ _
  · rw [df_yes h]
    by_cases e : xs = ys
    · rw [decide_eq_true e, (diffI_zero hl).2 e]; rfl
    · have : diffI xs ys ≠ 0 := fun h0 => e ((diffI_zero hl).1 h0)
      rw [decide_eq_false e, beq_eq_false_iff_ne.2 this]; rfl

set_option maxRecDepth 100000 in
set_option maxHeartbeats 8000000 in
theorem fnDistances_any (A : Option Addr) (n c : Nat) (w : World) (h : Bts w w.heap.size A n) :
    Calls Try.prog 3 #[.slice A n c] w fun e w' => e = .returned (.bool true) ∧ Below w.heap.size w w' := by
  by_cases hn : n ≤ 4096
  · have d0 : decide (4096 < (n : Int)) = false := by simp; omega
    have HB := Lib.hid h
    clear h
    go_enter Try.func3, Try.ntmps3
    go_wp2_with fail
    refine (big_any _ _ _ _).mono ?_
    rintro e w' ⟨rfl, rfl⟩
    rw [d0]
    clear d0
    go_wp2_with fail
    refine (drawDifferenceOf_any w.heap.size A n c w HB.out (Nat.le_refl _) hn).mono ?_
    rintro e w1 ⟨m, D, k, d, xs, D', k', d', ys, rfl, hSm, ox, hk, hkd, hd, oy, hk', hkd', hd', b1⟩
    have y1 := Boxed.new w1 25 m
    have hx1 := ox.ints.alloc (Nat.le_refl _) (.cells #[.int .i64 m.C, .int .i64 m.D, .int .i64 m.S, .int .i64 m.M, .int .i64 m.L] 25)
    have hy1 := oy.ints.alloc (Nat.le_refl _) (.cells #[.int .i64 m.C, .int .i64 m.D, .int .i64 m.S, .int .i64 m.M, .int .i64 m.L] 25)
    have b1 := b1.alloc b1.size (.cells #[.int .i64 m.C, .int .i64 m.D, .int .i64 m.S, .int .i64 m.M, .int .i64 m.L] 25)
    clear ox oy
    go_wp2_with fail
    refine (differenceOf_any m _ _ _ _ _ _ xs ys _ hx1 (by omega) hy1 (by omega)).mono ?_
    rintro e w2 ⟨rfl, b2⟩
    have y2 := y1.on b2
    have hx2 := hx1.on b2
    have hy2 := hy1.on b2
    have c2 := below_trans' b1 b2
    clear b1 b2 y1 hx1 hy1
    obtain ⟨q0, q1, q2, q3, q4⟩ := y2.cells
    go_wp2_with fail
    clear q0 q1 q2 q3 q4
    refine (specDifferenceOf_any m _ _ _ _ _ _ xs ys _ hx2 (by omega) hkd hd hy2 (by omega) hkd' hd').mono ?_
    rintro e w3 ⟨rfl, b3⟩
    have y3 := y2.on b3
    have hx3 := hx2.on b3
    have hy3 := hy2.on b3
    have c3 := below_trans' c2 b3
    clear c2 b3 y2 hx2 hy2
    obtain ⟨q0, q1, q2, q3, q4⟩ := y3.cells
    go_wp2_with fail
    clear q0 q1 q2 q3 q4
    refine (distanceOf_any m _ _ _ _ _ _ xs ys _ hx3 (by omega) hy3 (by omega)).mono ?_
    rintro e w4 ⟨rfl, b4⟩
    have y4 := y3.on b4
    have hx4 := hx3.on b4
    have hy4 := hy3.on b4
    have c4 := below_trans' c3 b4
    clear c3 b4 y3 hx3 hy3
    obtain ⟨q0, q1, q2, q3, q4⟩ := y4.cells
    go_wp2_with fail
    clear q0 q1 q2 q3 q4
    refine (specDistanceOf_any m _ _ _ _ _ _ xs ys _ hx4 (by omega) hkd hd hy4 (by omega) hkd' hd').mono ?_
    rintro e w5 ⟨rfl, b5⟩
    have y5 := y4.on b5
    have hx5 := hx4.on b5
    have hy5 := hy4.on b5
    have c5 := below_trans' c4 b5
    have HB5 := Lib.hid (HB.out.keep (w' := w5) (fun p hp => c5.cell hp))
    have s5 := c5.size
    clear c4 b5 y4 hx4 hy4 hkd hd hkd' hd'
    go_wp2_with fail
    refine (drawMirrorKey_any w.heap.size A n c w5 HB5.out s5 hn).mono ?_
    rintro e w6 ⟨m2, F, p, pc_, zs, rfl, hSm2, oz, hp, hpc, hpm, b6⟩
    have z6 := Boxed.new w6 25 m2
    have hz6 := oz.ints.alloc (Nat.le_refl _) (.cells #[.int .i64 m2.C, .int .i64 m2.D, .int .i64 m2.S, .int .i64 m2.M, .int .i64 m2.L] 25)
    have y6 := (y5.on b6).alloc (.cells #[.int .i64 m2.C, .int .i64 m2.D, .int .i64 m2.S, .int .i64 m2.M, .int .i64 m2.L] 25)
    have hx6 := (hx5.on b6).alloc (Nat.le_refl _) (.cells #[.int .i64 m2.C, .int .i64 m2.D, .int .i64 m2.S, .int .i64 m2.M, .int .i64 m2.L] 25)
    have hy6 := (hy5.on b6).alloc (Nat.le_refl _) (.cells #[.int .i64 m2.C, .int .i64 m2.D, .int .i64 m2.S, .int .i64 m2.M, .int .i64 m2.L] 25)
    have c6 := (below_trans' c5 b6).alloc (below_trans' c5 b6).size (.cells #[.int .i64 m2.C, .int .i64 m2.D, .int .i64 m2.S, .int .i64 m2.M, .int .i64 m2.L] 25)
    clear c5 b6 y5 hx5 hy5 HB5 s5 oz
    go_wp2_with fail
    refine (mirrorKey_any m2 _ _ _ zs _ hz6 (by omega)).mono ?_
    rintro e w7 ⟨N, t, tc, rfl, o7, ht, _, _, b7⟩
    have z7 := z6.on b7
    have hz7 := hz6.on b7
    have y7 := y6.on b7
    have hx7 := hx6.on b7
    have hy7 := hy6.on b7
    have c7 := below_trans' c6 b7
    have hl7 := o7.ints
    clear c6 b7 z6 hz6 y6 hx6 hy6 o7
    obtain ⟨q0, q1, q2, q3, q4⟩ := z7.cells
    go_wp2_with fail
    clear q0 q1 q2 q3 q4
    refine (specMirrorKey_any m2 _ _ _ zs _ hz7 (by omega) hpc hpm).mono ?_
    rintro e w8 ⟨N', t', tc', rfl, o8, ht', _, _, b8⟩
    have hr8 := o8.ints
    have hl8 := hl7.on b8
    obtain rfl : t = t' := by rw [← hl8.len, ← hr8.len]
    have z8 := z7.on b8
    have y8 := y7.on b8
    have hx8 := hx7.on b8
    have hy8 := hy7.on b8
    have c8 := below_trans' c7 b8
    clear c7 b8 z7 hz7 y7 hx7 hy7 o8 ht' hl7
    have f1 : (codeF m [xs, ys] != codeF m [xs, ys]) = false := by simp
    have f2 : (dfV m xs ys != dfV m xs ys) = false := by simp
    have f3 : (dsV m xs ys != dsV m xs ys) = false := by simp
    have f4 : (ktE m2 zs != ktE m2 zs) = false := by simp
    go_wp2_with fail
    refine (likeInts_true _ _ _ _ _ _ _ hl8 hr8 ht).mono ?_
    rintro e w9 ⟨rfl, b9⟩
    have z9 := z8.on b9
    have y9 := y8.on b9
    have hx9 := hx8.on b9
    have hy9 := hy8.on b9
    have hl9 := hl8.on b9
    have c9 := below_trans' c8 b9
    clear c8 z8 y8 hx8 hy8 hl8 hr8 b9
    by_cases hr0 : ktE m2 zs = 0
    · have G1 : Hid (isKeyB m2 (mkL m2 zs) = true) := Lib.hid (by rw [mk_yes hr0]; exact mir_key (kt_key hr0).2)
      have rb : (ktE m2 zs == 0) = true := by rw [hr0]; rfl
      obtain ⟨q0, q1, q2, q3, q4⟩ := z9.cells
      go_wp2_with fail
      clear q0 q1 q2 q3 q4
      refine (isKey_any m2 _ _ _ _ _ hl9 ht).mono ?_
      rw [G1.out]
      rintro e w10 ⟨rfl, b10⟩
      have y10 := y9.on b10
      have hx10 := hx9.on b10
      have hy10 := hy9.on b10
      have c10 := below_trans' c9 b10
      clear y9 hx9 hy9 c9 b10 hl9 z9 G1
      by_cases hk0 : codeF m [xs, ys] = 0
      · obtain ⟨e1, e2, e3, e4, e5, e6, e7, e8, e9⟩ := dist_laws hk0
        obtain ⟨_, _, ll, _, _⟩ := two_len hk0
        obtain rfl : k = k' := by rw [← hx10.len, ← hy10.len]; exact ll
        have E1 := Lib.hid e1
        have E2 := Lib.hid e2
        have E3 := Lib.hid e3
        have E4 := Lib.hid e4
        have E5 := Lib.hid e5
        have E6 := Lib.hid e6
        have E7 := Lib.hid e7
        have kb : (codeF m [xs, ys] != 0) = false := by rw [hk0]; rfl
        have g1 : (dsV m xs ys == dsV m xs ys) = true := by simp
        have g2 : decide (dfV m xs ys ≤ dsV m xs ys) = true := by simpa using e8
        have G3 := Lib.hid e9
        obtain ⟨q0, q1, q2, q3, q4⟩ := y10.cells
        clear e1 e2 e3 e4 e5 e6 e7 e8 e9 hk0 ll
        go_wp2_with fail
        clear q0 q1 q2 q3 q4
        refine (distanceOf_any m _ _ _ _ _ _ ys xs _ hy10 (by omega) hx10 (by omega)).mono ?_
        rw [E1.out, E2.out]
        rintro e wa ⟨rfl, ba⟩
        have ya := y10.on ba
        have hxa := hx10.on ba
        have hya := hy10.on ba
        have ca := below_trans' c10 ba
        clear y10 hx10 hy10 c10 ba
        obtain ⟨q0, q1, q2, q3, q4⟩ := ya.cells
        go_wp2_with fail
        clear q0 q1 q2 q3 q4
        refine (mirrorKey_any m _ _ _ xs _ hxa (by omega)).mono ?_
        rw [E3.out.1, E3.out.2]
        rintro e wb ⟨N1, t1, tc1, rfl, o1, ht1, _, _, bb⟩
        have yb := ya.on bb
        have hxb := hxa.on bb
        have hyb := hya.on bb
        have cb := below_trans' ca bb
        have ub := o1.ints
        clear ya hxa hya ca bb o1
        obtain ⟨q0, q1, q2, q3, q4⟩ := yb.cells
        go_wp2_with fail
        clear q0 q1 q2 q3 q4
        refine (mirrorKey_any m _ _ _ ys _ hyb (by omega)).mono ?_
        rw [E4.out.1, E4.out.2]
        rintro e wc ⟨N2, t2, tc2, rfl, o2, ht2, _, _, bc⟩
        have yc := yb.on bc
        have hxc := hxb.on bc
        have hyc := hyb.on bc
        have cc := below_trans' cb bc
        have uc := ub.on bc
        have vc := o2.ints
        clear yb hxb hyb cb bc ub o2
        obtain ⟨q0, q1, q2, q3, q4⟩ := yc.cells
        go_wp2_with fail
        clear q0 q1 q2 q3 q4
        refine (distanceOf_any m _ _ _ _ _ _ _ _ _ uc (by omega) vc (by omega)).mono ?_
        rw [E5.out, E6.out]
        rintro e wd ⟨rfl, bd⟩
        have hxd := hxc.on bd
        have hyd := hyc.on bd
        have cd := below_trans' cc bd
        clear yc hxc hyc cc bd uc vc
        go_wp2_with fail
        refine (likeInts_any _ _ _ _ _ xs ys _ hxd hyd (by omega)).mono ?_
        rintro e we ⟨rfl, qe, rfl⟩
        have ce := below_drewN cd qe
        have GZ := G3.out
        clear hxd hyd cd
        go_wp2
        go_ret
        exact ⟨rfl, ce⟩
      · have kb : (codeF m [xs, ys] != 0) = true := by simpa using hk0
        go_wp2
        go_ret
        exact ⟨rfl, c10⟩
    · have rb : (ktE m2 zs == 0) = false := by simpa using hr0
      by_cases hk0 : codeF m [xs, ys] = 0
      · obtain ⟨e1, e2, e3, e4, e5, e6, e7, e8, e9⟩ := dist_laws hk0
        obtain ⟨_, _, ll, _, _⟩ := two_len hk0
        obtain rfl : k = k' := by rw [← hx9.len, ← hy9.len]; exact ll
        have E1 := Lib.hid e1
        have E2 := Lib.hid e2
        have E3 := Lib.hid e3
        have E4 := Lib.hid e4
        have E5 := Lib.hid e5
        have E6 := Lib.hid e6
        have E7 := Lib.hid e7
        have kb : (codeF m [xs, ys] != 0) = false := by rw [hk0]; rfl
        have g1 : (dsV m xs ys == dsV m xs ys) = true := by simp
        have g2 : decide (dfV m xs ys ≤ dsV m xs ys) = true := by simpa using e8
        have G3 := Lib.hid e9
        obtain ⟨q0, q1, q2, q3, q4⟩ := y9.cells
        clear e1 e2 e3 e4 e5 e6 e7 e8 e9 hk0 ll
        go_wp2_with fail
        clear q0 q1 q2 q3 q4
        refine (distanceOf_any m _ _ _ _ _ _ ys xs _ hy9 (by omega) hx9 (by omega)).mono ?_
        rw [E1.out, E2.out]
        rintro e wa ⟨rfl, ba⟩
        have ya := y9.on ba
        have hxa := hx9.on ba
        have hya := hy9.on ba
        have ca := below_trans' c9 ba
        clear y9 hx9 hy9 c9 ba
        obtain ⟨q0, q1, q2, q3, q4⟩ := ya.cells
        go_wp2_with fail
        clear q0 q1 q2 q3 q4
        refine (mirrorKey_any m _ _ _ xs _ hxa (by omega)).mono ?_
        rw [E3.out.1, E3.out.2]
        rintro e wb ⟨N1, t1, tc1, rfl, o1, ht1, _, _, bb⟩
        have yb := ya.on bb
        have hxb := hxa.on bb
        have hyb := hya.on bb
        have cb := below_trans' ca bb
        have ub := o1.ints
        clear ya hxa hya ca bb o1
        obtain ⟨q0, q1, q2, q3, q4⟩ := yb.cells
        go_wp2_with fail
        clear q0 q1 q2 q3 q4
        refine (mirrorKey_any m _ _ _ ys _ hyb (by omega)).mono ?_
        rw [E4.out.1, E4.out.2]
        rintro e wc ⟨N2, t2, tc2, rfl, o2, ht2, _, _, bc⟩
        have yc := yb.on bc
        have hxc := hxb.on bc
        have hyc := hyb.on bc
        have cc := below_trans' cb bc
        have uc := ub.on bc
        have vc := o2.ints
        clear yb hxb hyb cb bc ub o2
        obtain ⟨q0, q1, q2, q3, q4⟩ := yc.cells
        go_wp2_with fail
        clear q0 q1 q2 q3 q4
        refine (distanceOf_any m _ _ _ _ _ _ _ _ _ uc (by omega) vc (by omega)).mono ?_
        rw [E5.out, E6.out]
        rintro e wd ⟨rfl, bd⟩
        have hxd := hxc.on bd
        have hyd := hyc.on bd
        have cd := below_trans' cc bd
        clear yc hxc hyc cc bd uc vc
        go_wp2_with fail
        refine (likeInts_any _ _ _ _ _ xs ys _ hxd hyd (by omega)).mono ?_
        rintro e we ⟨rfl, qe, rfl⟩
        have ce := below_drewN cd qe
        have GZ := G3.out
        clear hxd hyd cd
        go_wp2
        go_ret
        exact ⟨rfl, ce⟩
      · have kb : (codeF m [xs, ys] != 0) = true := by simpa using hk0
        go_wp2
        go_ret
        exact ⟨rfl, c9⟩
  · have d0 : decide (4096 < (n : Int)) = true := by simp; omega
    go_enter Try.func3, Try.ntmps3
    go_wp2_with fail
    refine (big_any _ _ _ _).mono ?_
    rintro e w' ⟨rfl, rfl⟩
    rw [d0]
    go_wp2
    go_ret
    exact ⟨rfl, Below.refl _ _⟩

end Go.Proofs.Ytpbimekfhdgdoaa
