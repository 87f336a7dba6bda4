/- The law of sides: its walk. -/
import Derived.Test.YtpabccgndhmcdaaFamOne
import Derived.Test.YtpabccgndhmcdaaDrawS
import Derived.Test.YtpabccgndhmcdaaSame
namespace Go.Proofs.Ytpabccgndhmcdaa
open Go.RowKit

theorem sd_back {s v : Int} {xs ys : List Int} (h : sdE s v xs ys = 0) : xs.length = ys.length ∧ sdV s v ys xs = sdV s v xs ys ∧ sdE s v ys xs = 0 ∧ (sdV s v xs ys = 0 ↔ xs = ys) := by
  rcases h1 : sysB s v with _ | _
  · rw [(sdi_no h1).2] at h; cases h
  rcases h2 : twoB s v xs ys with _ | _
  · rw [(sdi_bad h1 h2).2] at h; cases h
  have h3 : twoB s v ys xs = true := by unfold twoB at h2 ⊢; rw [Bool.and_comm]; exact h2
  have hl := twoB_len h2
  rw [(sdi_yes h1 h2).1, (sdi_yes h1 h3).1, (sdi_yes h1 h3).2]
  exact ⟨hl, diffI_comm hl.symm, rfl, diffI_zero hl⟩
theorem shorts_size {yss : List (List Int)} (h : Shorts yss) : ∀ k, sizeAt yss k ≤ 101 * k
  | 0 => Nat.le_refl _
  | k + 1 => by
    have ih := shorts_size h k
    rcases hq : yss[k]? with _ | ys
    · have h2 : sizeAt yss (k + 1) = sizeAt yss k + (yss.getD k []).length := rfl
      rw [h2, List.getD_eq_getElem?_getD, hq]
      simp
      omega
    · rw [sizeAt_step hq]
      have := h ys (List.mem_of_getElem? hq)
      omega

set_option maxRecDepth 100000 in
set_option maxHeartbeats 8000000 in
theorem fnSides_any (A : Option Addr) (n c : Nat) (w : World) (h : Bts w w.heap.size A n) :
    Calls Try.prog 4 #[.slice A n c] w fun e w' => e = .returned (.bool true) ∧ Below w.heap.size w w' := by
  by_cases hn : n ≤ 4096
  · have d0 : decide (4096 < (n : Int)) = false := by simp; omega
    have HB := Lib.hid h
    clear h
    go_enter Try.func4, Try.ntmps4
    go_wp2_with fail
    refine (big_any _ _ _ _).mono ?_
    rintro e w' ⟨rfl, rfl⟩
    rw [d0]
    clear d0
    go_wp2_with fail
    refine (drawSideDistance_any w.heap.size A n c w HB.out (Nat.le_refl _) hn).mono ?_
    rintro e w1 ⟨s, v, A1, m1, c1_, xs, A2, m2, c2_, ys, rfl, ox, hm1, hc1, hx1, oy, hm2, hc2, hx2, b1⟩
    have x1 := ox.ints
    have y1 := oy.ints
    clear ox oy
    go_wp2_with fail
    refine (sideDistance_any s v _ _ _ _ _ _ xs ys _ x1 (by omega) hc1 hx1 y1 hc2 hx2).mono ?_
    rintro e w2 ⟨rfl, b2⟩
    have x2 := x1.on b2
    have y2 := y1.on b2
    have c2 := below_trans' b1 b2
    clear b1 b2 x1 y1
    go_wp2_with fail
    refine (specSideDistance_any s v _ _ _ _ _ _ xs ys _ x2 (by omega) y2 (by omega)).mono ?_
    rintro e w3' ⟨rfl, q3, rfl⟩
    have x3 : Ints (w2.drewN q3) (w2.drewN q3).heap.size A1 m1 xs := ints_drewN x2 q3
    have y3 : Ints (w2.drewN q3) (w2.drewN q3).heap.size A2 m2 ys := ints_drewN y2 q3
    have c3 := below_drewN c2 q3
    clear x2 y2 c2
    generalize w2.drewN q3 = w3 at x3 y3 c3 ⊢
    have HB3 := Lib.hid (HB.out.keep (w' := w3) (fun p hp => c3.cell hp))
    have s3 := c3.size
    go_wp2_with fail
    refine (drawCountSides_any w.heap.size A n c w3 HB3.out s3 hn).mono ?_
    rintro e w4 ⟨p, q, rfl, b4⟩
    have x4 := x3.on b4
    have y4 := y3.on b4
    have c4 := below_trans' c3 b4
    clear c3 b4 x3 y3 HB3 s3
    go_wp2_with fail
    refine (countSideCodes_any p q _).mono ?_
    rintro e w5 ⟨rfl, b5⟩
    have x5 := x4.on b5
    have y5 := y4.on b5
    have c5 := below_trans' c4 b5
    clear c4 b5 x4 y4
    go_wp2_with fail
    refine (specCountSideCodes_any p q _).mono ?_
    rintro e w' ⟨rfl, rfl⟩
    have HB5 := Lib.hid (HB.out.keep (w' := w5) (fun p hp => c5.cell hp))
    have s5 := c5.size
    go_wp2_with fail
    refine (drawAreApart_any w.heap.size A n c w5 HB5.out s5 hn).mono ?_
    rintro e w6 ⟨s', v', d, V, k, kc, yss, rfl, hs6, hkc, hkx, hk, hsh, b6⟩
    have HM : Hid (k + sizeL yss ≤ 1048576) := Lib.hid (by
      have := shorts_size hsh yss.length
      have := hs6.len
      unfold sizeL
      omega)
    have S6 := Lib.hid hs6
    have x6 := x5.on b6
    have y6 := y5.on b6
    have c6 := below_trans' c5 b6
    clear c5 b6 x5 y5 HB5 s5 hs6 hsh
    go_wp2_with fail
    refine (areApart_any s' v' d _ k kc yss _ S6.out (by omega) hkc hkx).mono ?_
    rintro e w7 ⟨rfl, b7⟩
    have S7 := Lib.hid ((S6.out.below b7).more b7.size)
    have x7 := x6.on b7
    have y7 := y6.on b7
    have c7 := below_trans' c6 b7
    clear c6 b7 x6 y6 S6
    go_wp2_with fail
    refine (specAreApart_any s' v' d _ k kc yss _ S7.out HM.out hkc hkx).mono ?_
    rintro e w8' ⟨rfl, q8, rfl⟩
    have x8 : Ints (w7.drewN q8) (w7.drewN q8).heap.size A1 m1 xs := ints_drewN x7 q8
    have y8 : Ints (w7.drewN q8) (w7.drewN q8).heap.size A2 m2 ys := ints_drewN y7 q8
    have c8 := below_drewN c7 q8
    clear x7 y7 c7 S7
    generalize w7.drewN q8 = w8 at x8 y8 c8 ⊢
    have HB8 := Lib.hid (HB.out.keep (w' := w8) (fun p hp => c8.cell hp))
    have s8 := c8.size
    go_wp2_with fail
    refine (drawIsSideCode_any w.heap.size A n c w8 HB8.out s8 hn).mono ?_
    rintro e w9 ⟨s9, v9, A9, m9, c9_, zs, rfl, oz, hm9, hc9, hx9, b9⟩
    have z9 := oz.ints
    have x9 := x8.on b9
    have y9 := y8.on b9
    have c9 := below_trans' c8 b9
    clear c8 b9 x8 y8 HB8 s8 oz HB
    have g1 : (sdE s v xs ys != sdE s v xs ys) = false := by simp
    have g2 : (sdV s v xs ys != sdV s v xs ys) = false := by simp
    have g3 : (csE p q != csE p q) = false := by simp
    have g4 : (csV p q != csV p q) = false := by simp
    have g5 : (apE s' v' d yss != apE s' v' d yss) = false := by simp
    have g6 : (apV s' v' d yss != apV s' v' d yss) = false := by simp
    have g7 : (iscB s9 v9 zs != iscB s9 v9 zs) = false := by simp
    go_wp2_with fail
    refine (isSideCode_any s9 v9 _ _ _ zs _ z9 hc9 hx9).mono ?_
    rintro e wa ⟨rfl, ba⟩
    have za := z9.on ba
    have xa := x9.on ba
    have ya := y9.on ba
    have ca := below_trans' c9 ba
    clear c9 ba x9 y9 z9
    go_wp2_with fail
    refine (specIsSideCode_any s9 v9 _ _ _ zs _ za (by omega)).mono ?_
    rintro e w' ⟨rfl, rfl⟩
    clear za
    by_cases hone : csE p q = 0
    · have ob : (csE p q == 0) = true := by rw [hone]; rfl
      obtain ⟨a1, a2⟩ := all_one hone
      have A1' := Lib.hid a1
      have A2' := Lib.hid a2
      have z0 : ((0 : Int) != 0) = false := rfl
      clear a1 a2
      go_wp2_with fail
      refine (countFamilies_any p q 1 _).mono ?_
      rw [A1'.out, A2'.out]
      rintro e wb ⟨rfl, bb⟩
      have xb := xa.on bb
      have yb := ya.on bb
      have cb := below_trans' ca bb
      clear xa ya ca bb
      by_cases hbad : sdE s v xs ys = 0
      · obtain ⟨hl, k1, k2, k3⟩ := sd_back hbad
        have nb : (sdE s v xs ys != 0) = false := by rw [hbad]; rfl
        have e0 : ((0 : Int) == 0) = true := rfl
        have e1 : (sdV s v xs ys == sdV s v xs ys) = true := by simp
        obtain ⟨bb, hb1, hb2⟩ : ∃ bb : Bool, decide (xs = ys) = bb ∧ (sdV s v xs ys == 0) = bb := by
          by_cases hh : xs = ys
          · exact ⟨true, decide_eq_true hh, by rw [k3.2 hh]; rfl⟩
          · exact ⟨false, decide_eq_false hh, by have : sdV s v xs ys ≠ 0 := fun e => hh (k3.1 e)
                                                 simpa using this⟩
        have HB1 := Lib.hid hb1
        have K1 := Lib.hid k1
        have K2 := Lib.hid k2
        obtain rfl : m1 = m2 := by rw [← xb.len, ← yb.len]; exact hl
        clear k1 k2 k3 hl hb1
        go_wp2_with fail
        refine (sideDistance_any s v _ _ _ _ _ _ ys xs _ yb (by omega) hc2 hx2 xb hc1 hx1).mono ?_
        rw [K1.out, K2.out]
        rintro e wy ⟨rfl, by_⟩
        have xy := xb.on by_
        have yy := yb.on by_
        have cy := below_trans' cb by_
        clear xb yb cb by_
        go_wp2_with fail
        refine (likeInts_any _ _ _ _ _ xs ys _ xy yy (by omega)).mono ?_
        rw [HB1.out]
        rintro e wz ⟨rfl, qz, rfl⟩
        have cz := below_drewN cy qz
        cases bb <;> (go_wp2; go_ret; exact ⟨rfl, cz⟩)
      · have nb : (sdE s v xs ys != 0) = true := by simpa using hbad
        go_wp2
        go_ret
        exact ⟨rfl, cb⟩
    · have ob : (csE p q == 0) = false := by simpa using hone
      by_cases hbad : sdE s v xs ys = 0
      · obtain ⟨hl, k1, k2, k3⟩ := sd_back hbad
        have nb : (sdE s v xs ys != 0) = false := by rw [hbad]; rfl
        have e0 : ((0 : Int) == 0) = true := rfl
        have e1 : (sdV s v xs ys == sdV s v xs ys) = true := by simp
        obtain ⟨bb, hb1, hb2⟩ : ∃ bb : Bool, decide (xs = ys) = bb ∧ (sdV s v xs ys == 0) = bb := by
          by_cases hh : xs = ys
          · exact ⟨true, decide_eq_true hh, by rw [k3.2 hh]; rfl⟩
          · exact ⟨false, decide_eq_false hh, by have : sdV s v xs ys ≠ 0 := fun e => hh (k3.1 e)
                                                 simpa using this⟩
        have HB1 := Lib.hid hb1
        have K1 := Lib.hid k1
        have K2 := Lib.hid k2
        obtain rfl : m1 = m2 := by rw [← xa.len, ← ya.len]; exact hl
        clear k1 k2 k3 hl hb1
        go_wp2_with fail
        refine (sideDistance_any s v _ _ _ _ _ _ ys xs _ ya (by omega) hc2 hx2 xa hc1 hx1).mono ?_
        rw [K1.out, K2.out]
        rintro e wy ⟨rfl, by_⟩
        have xy := xa.on by_
        have yy := ya.on by_
        have cy := below_trans' ca by_
        clear xa ya ca by_
        go_wp2_with fail
        refine (likeInts_any _ _ _ _ _ xs ys _ xy yy (by omega)).mono ?_
        rw [HB1.out]
        rintro e wz ⟨rfl, qz, rfl⟩
        have cz := below_drewN cy qz
        cases bb <;> (go_wp2; go_ret; exact ⟨rfl, cz⟩)
      · have nb : (sdE s v xs ys != 0) = true := by simpa using hbad
        go_wp2
        go_ret
        exact ⟨rfl, ca⟩
  · have d0 : decide (4096 < (n : Int)) = true := by simp; omega
    go_enter Try.func4, Try.ntmps4
    go_wp2_with fail
    refine (big_any _ _ _ _).mono ?_
    rintro e w' ⟨rfl, rfl⟩
    rw [d0]
    clear d0
    go_wp2
    go_ret
    exact ⟨rfl, Below.refl _ _⟩

end Go.Proofs.Ytpabccgndhmcdaa
