/- The law of families: its walk. -/
import Derived.Test.YtpabccgndhmcdaaFamMath
import Derived.Test.YtpabccgndhmcdaaDraw7
import Derived.Test.YtpabccgndhmcdaaLockW
namespace Go.Proofs.Ytpabccgndhmcdaa
open Go.RowKit

theorem nf_zero {s v d : Int} {xs : List Int} (h : nfE s v d xs = 0) : sdB s v d = true ∧ sideB s v xs = true := by
  rcases h1 : sdB s v d with _ | _
  · rw [(nf_no h1).2] at h; cases h
  rcases h2 : sideB s v xs with _ | _
  · rw [(nf_bad h1 h2).2] at h; cases h
  exact ⟨rfl, rfl⟩
theorem fo_zero {s v d m : Int} (h : foE s v d m = 0) : foOk s v d m = true := by
  rcases h1 : foOk s v d m with _ | _
  · rw [(fo_no h1).2] at h; cases h
  rfl
theorem fo_sd {s v d m : Int} (h : foOk s v d m = true) : sdB s v d = true := by unfold foOk at h; rw [Bool.and_eq_true] at h; exact h.1
theorem fo_count {s v d m : Int} {k : Nat} (h : foOk s v d m = true) (hk : (foL s v d m).length = k) : (k : Int) = min m (cfV s v d) := by
  have hm : inB m 0 60 = true := by unfold foOk at h; rw [Bool.and_eq_true] at h; exact h.2
  obtain ⟨m0, m1⟩ := inB_true.1 hm
  rw [(cf_yes (fo_sd h)).1, ← hk, (fo_yes h).1, List.length_take]
  omega

set_option maxRecDepth 100000 in
set_option maxHeartbeats 8000000 in
theorem fnFamilies_any (A : Option Addr) (n c : Nat) (w : World) (h : Bts w w.heap.size A n) :
    Calls Try.prog 3 #[.slice A n c] w fun e w' => e = .returned (.bool true) ∧ Below w.heap.size w w' := by
  by_cases hn : n ≤ 4096
  · have d0 : decide (4096 < (n : Int)) = false := by simp; omega
    have HB := Lib.hid h
    clear h
    go_enter Try.func3, Try.ntmps3
    go_wp2_with fail
    refine (big_any _ _ _ _).mono ?_
    rintro e w' ⟨rfl, rfl⟩
    rw [d0]
    clear d0
    go_wp2_with fail
    refine (drawNearestFamily_any w.heap.size A n c w HB.out (Nat.le_refl _) hn).mono ?_
    rintro e w1 ⟨s, v, d, D, m, dc, xs, rfl, ox, hm, hmd, hdx, b1⟩
    have x1 := ox.ints
    clear ox
    go_wp2_with fail
    refine (nearestFamily_any s v d _ _ _ xs _ x1 (by omega) hmd hdx).mono ?_
    rintro e w2 ⟨Af, nf, cf, rfl, of, hnf, hnc, hcx, b2⟩
    have f2 := of.ints
    have x2 := x1.on b2
    have c2 := below_trans' b1 b2
    clear b1 b2 x1 of
    go_wp2_with fail
    refine (specNearestFamily_any s v d _ _ _ xs _ x2 (by omega)).mono ?_
    rintro e w3 ⟨Am, nm, cm, rfl, m3, hnm, b3⟩
    have f3 := f2.on b3
    have x3 := x2.on b3
    obtain rfl : nf = nm := by rw [← f3.len, ← m3.len]
    have c3 := below_trans' c2 b3
    have HB3 := Lib.hid (HB.out.keep (w' := w3) (fun p hp => c3.cell hp))
    have s3 := c3.size
    clear c2 b3 f2 x2 hnm
    go_wp2_with fail
    refine (drawFamiliesOf_any w.heap.size A n c w3 HB3.out s3 hn).mono ?_
    rintro e w4 ⟨p, q, r, o, rfl, b4⟩
    have M4 := Lib.hid (m3.on b4)
    have f4 := f3.on b4
    have x4 := x3.on b4
    have c4 := below_trans' c3 b4
    clear c3 b4 m3 f3 x3 HB3 s3 HB
    obtain ⟨yss, hy⟩ : ∃ yss, foL p q r o = yss := ⟨_, rfl⟩
    have HN : Hid (yss.length + sizeL yss ≤ 1048576) := Lib.hid (by rw [← hy]; exact fo_size p q r o)
    have HY := Lib.hid hy
    clear hy
    go_wp2_with fail
    refine (familiesOf_any p q r o _).mono ?_
    rw [HY.out]
    rintro e w5 ⟨V, k, kc, gs, rfl, R5, hkc, hkx, b5⟩
    have S5 := Lib.hid R5.sets
    have HL := Lib.hid R5.len
    have M5 := Lib.hid (M4.out.on b5)
    have f5 := f4.on b5
    have x5 := x4.on b5
    have c5 := below_trans' c4 b5
    clear R5 M4 f4 x4 c4 b5
    go_wp2_with fail
    refine (specFamiliesOf_any p q r o _).mono ?_
    rw [HY.out]
    rintro e w6 ⟨V2, k2, kc2, rfl, T6', _, _, b6⟩
    obtain rfl : k = k2 := HL.out.symm.trans T6'.len
    have S6 := Lib.hid ((S5.out.below b6).more b6.size)
    have T6 := Lib.hid T6'
    have HM : Hid (k + sizeL yss ≤ 1048576) := Lib.hid (by rw [← HL.out]; exact HN.out)
    have M6 := Lib.hid (M5.out.on b6)
    have f6 := f5.on b6
    have x6 := x5.on b6
    have c6 := below_trans' c5 b6
    clear T6' S5 M5 f5 x5 c5 b6
    go_wp2_with fail
    refine (countFamilies_any p q r _).mono ?_
    rintro e w7 ⟨rfl, b7⟩
    have S7 := Lib.hid ((S6.out.below b7).more b7.size)
    have T7 := Lib.hid ((T6.out.below b7).more b7.size)
    have M7 := Lib.hid (M6.out.on b7)
    have f7 := f6.on b7
    have x7 := x6.on b7
    have c7 := below_trans' c6 b7
    clear S6 T6 M6 f6 x6 c6 b7
    go_wp2_with fail
    refine (specCountFamilies_any p q r _).mono ?_
    rintro e w8 ⟨rfl, b8⟩
    have S8 := Lib.hid ((S7.out.below b8).more b8.size)
    have T8 := Lib.hid ((T7.out.below b8).more b8.size)
    have M8 := Lib.hid (M7.out.on b8)
    have f8 := f7.on b8
    have x8 := x7.on b8
    have c8 := below_trans' c7 b8
    clear S7 T7 M7 f7 x7 c7 b8
    go_wp2_with fail
    refine (familyBound_any p q r _).mono ?_
    rintro e w9 ⟨rfl, b9⟩
    have S9 := Lib.hid ((S8.out.below b9).more b9.size)
    have T9 := Lib.hid ((T8.out.below b9).more b9.size)
    have M9 := Lib.hid (M8.out.on b9)
    have f9 := f8.on b9
    have x9 := x8.on b9
    have c9 := below_trans' c8 b9
    clear S8 T8 M8 f8 x8 c8 b9
    have g1 : (nfE s v d xs != nfE s v d xs) = false := by simp
    have g2 : (foE p q r o != foE p q r o) = false := by simp
    have g3 : (cfE p q r != cfE p q r) = false := by simp
    have g4 : (cfV p q r != cfV p q r) = false := by simp
    have g5 : (fbE p q r != fbE p q r) = false := by simp
    have g6 : (fbV p q r != fbV p q r) = false := by simp
    go_wp2_with fail
    refine (specFamilyBound_any p q r _).mono ?_
    rintro e w' ⟨rfl, rfl⟩
    go_wp2_with fail
    refine (likeInts_true _ _ _ _ _ _ _ f9 M9.out (by omega)).mono ?_
    rintro e wa ⟨rfl, ba⟩
    have Sa := Lib.hid ((S9.out.below ba).more ba.size)
    have Ta := Lib.hid ((T9.out.below ba).more ba.size)
    have fa := f9.on ba
    have xa := x9.on ba
    have ca := below_trans' c9 ba
    clear S9 T9 M9 f9 x9 c9 ba
    go_wp2_with fail
    refine (likeSets_true _ _ _ _ _ yss _ Sa.out Ta.out HM.out).mono ?_
    rintro e wb ⟨rfl, qb, rfl⟩
    have Sb := Lib.hid (show Sets (wa.drewN qb) (wa.drewN qb).heap.size V k yss from Sa.out)
    have fb : Ints (wa.drewN qb) (wa.drewN qb).heap.size Af nf (nfL s v d xs) := ints_drewN fa qb
    have xb : Ints (wa.drewN qb) (wa.drewN qb).heap.size D m xs := ints_drewN xa qb
    have cb := below_drewN ca qb
    clear Sa Ta fa xa ca
    generalize wa.drewN qb = wb at Sb fb xb cb ⊢
    by_cases hfo : foE p q r o = 0
    · have hok := fo_zero hfo
      have ob : (foE p q r o == 0) = true := by rw [hfo]; rfl
      have hap := fo_apart hok
      rw [HY.out] at hap
      have HA := Lib.hid hap
      have z0 : ((0 : Int) != 0) = false := rfl
      have hle := fam_bound (fo_sd hok)
      have gle : decide (fbV p q r < cfV p q r) = false := by simpa using hle
      have hkn := fo_count hok (show (foL p q r o).length = k by rw [HY.out]; exact HL.out)
      have hk6 : k ≤ 1048576 := by have := HM.out; omega
      go_wp2_with fail
      refine (areApart_any p q r _ k kc yss _ Sb.out hk6 hkc hkx).mono ?_
      rw [HA.out.1, HA.out.2]
      rintro e wc ⟨rfl, bc⟩
      have fc := fb.on bc
      have xc := xb.on bc
      have cc := below_trans' cb bc
      clear fb xb cb Sb bc
      by_cases hbad : nfE s v d xs = 0
      · obtain ⟨hs, hx⟩ := nf_zero hbad
        have nb : (nfE s v d xs != 0) = false := by rw [hbad]; rfl
        have e0 : ((0 : Int) == 0) = true := rfl
        obtain ⟨hy, _, _⟩ := sd_true hs
        obtain ⟨k1, k2⟩ := nf_near hs hx
        have kd : decide (diffI (nfL s v d xs) xs < d) = true := decide_eq_true k2
        have K1 := Lib.hid (sdi_yes hy (show twoB s v (nfL s v d xs) xs = true by unfold twoB; rw [k1, hx]; rfl))
        have K2 := Lib.hid (show iscB s v (nfL s v d xs) = true by rw [isc_yes' hy]; exact k1)
        clear hs hx hy k1 k2
        go_wp2_with fail
        refine (sideDistance_any s v _ _ _ _ _ _ (nfL s v d xs) xs _ fc (by omega) hnc hcx xc hmd hdx).mono ?_
        rw [K1.out.1, K1.out.2]
        rintro e wy ⟨rfl, by_⟩
        have fy := fc.on by_
        have cy := below_trans' cc by_
        clear fc xc cc by_
        go_wp2_with fail
        refine (isSideCode_any s v _ _ _ (nfL s v d xs) _ fy hnc hcx).mono ?_
        rw [K2.out]
        rintro e wz ⟨rfl, bz⟩
        have cz := below_trans' cy bz
        go_wp2
        go_ret
        exact ⟨rfl, cz⟩
      · have nb : (nfE s v d xs != 0) = true := by simpa using hbad
        go_wp2
        go_ret
        exact ⟨rfl, cc⟩
    · have ob : (foE p q r o == 0) = false := by simpa using hfo
      by_cases hbad : nfE s v d xs = 0
      · obtain ⟨hs, hx⟩ := nf_zero hbad
        have nb : (nfE s v d xs != 0) = false := by rw [hbad]; rfl
        have e0 : ((0 : Int) == 0) = true := rfl
        obtain ⟨hy, _, _⟩ := sd_true hs
        obtain ⟨k1, k2⟩ := nf_near hs hx
        have kd : decide (diffI (nfL s v d xs) xs < d) = true := decide_eq_true k2
        have K1 := Lib.hid (sdi_yes hy (show twoB s v (nfL s v d xs) xs = true by unfold twoB; rw [k1, hx]; rfl))
        have K2 := Lib.hid (show iscB s v (nfL s v d xs) = true by rw [isc_yes' hy]; exact k1)
        clear hs hx hy k1 k2
        go_wp2_with fail
        refine (sideDistance_any s v _ _ _ _ _ _ (nfL s v d xs) xs _ fb (by omega) hnc hcx xb hmd hdx).mono ?_
        rw [K1.out.1, K1.out.2]
        rintro e wy ⟨rfl, by_⟩
        have fy := fb.on by_
        have cy := below_trans' cb by_
        clear fb xb cb by_
        go_wp2_with fail
        refine (isSideCode_any s v _ _ _ (nfL s v d xs) _ fy hnc hcx).mono ?_
        rw [K2.out]
        rintro e wz ⟨rfl, bz⟩
        have cz := below_trans' cy bz
        go_wp2
        go_ret
        exact ⟨rfl, cz⟩
      · have nb : (nfE s v d xs != 0) = true := by simpa using hbad
        go_wp2
        go_ret
        exact ⟨rfl, cb⟩
  · have d0 : decide (4096 < (n : Int)) = true := by simp; omega
    go_enter Try.func3, Try.ntmps3
    go_wp2_with fail
    refine (big_any _ _ _ _).mono ?_
    rintro e w' ⟨rfl, rfl⟩
    rw [d0]
    clear d0
    go_wp2
    go_ret
    exact ⟨rfl, Below.refl _ _⟩

end Go.Proofs.Ytpabccgndhmcdaa
