/- FnWorn: what surely opens may open, and more wear opens no less. -/
import Derived.Test.YtbfnffecmglgfaaDrawM
import Derived.Test.YtbfnffecmglgfaaCntMay
namespace Go.Proofs.Ytbfnffecmglgfaa
open Go Go.RowKit

theorem few_size {k : Nat} {zss : List (List Int)} (h : Few k zss) (hl : zss.length = k) : k + sizeL zss ≤ 1048576 := by
  have h1 : ∀ i, (zss.getD i []).length ≤ 9 := by
    intro i
    rcases Nat.lt_or_ge i zss.length with hi | hi
    · rw [List.getD_eq_getElem?_getD, List.getElem?_eq_getElem hi]
      exact h.2 _ (List.getElem_mem hi)
    · rw [List.getD_eq_getElem?_getD, List.getElem?_eq_none hi]
      exact Nat.zero_le _
  have h2 := sizeAt_boundW h1 zss.length
  have h3 := h.1
  unfold sizeL
  rw [hl] at *
  omega
theorem wk_opens {m : Mk} {yss : List (List Int)} {xs : List Int} (hL : lockB m yss = true) (hK : isKeyB m xs = true) : opensE m yss xs = 0 ∧ opensV m yss xs = frees (setP yss) 0 xs := by simp [opensE, opensV, hL, hK]
/-- a worn key may open a lock exactly if it opens the worn one -/
theorem worn_opens {m : Mk} {yss : List (List Int)} {xs : List Int} {t : Int} {k : Nat} (hK : isKeyB m xs = true) : frees (setP (wornL m yss t k)) 0 xs = frees (mayP (setP yss) t k) 0 xs := by
  obtain ⟨hm, lx, dx, _⟩ := key_facts hK
  obtain ⟨m1, m2, m3, m4, _⟩ := Mk.ok_true hm
  refine frees_at_congr (fun i hi => ?_)
  have ex : xs[i]? = some (xs[i]'hi) := List.getElem?_eq_getElem _
  generalize xs[i]'hi = u at ex
  obtain ⟨u0, u1⟩ := allIn_at dx ex
  rw [getD_at ex]
  exact setP_worn (by omega) (by omega)
theorem sure_may {p : Nat → Nat → Bool} {t : Int} {k : Nat} {xs : List Int} (hk : 0 < k) (h : frees (sureP p t k) 0 xs = true) : frees (mayP p t k) 0 xs = true :=
  frees_mono (fun _ _ h1 => every_some h1 hk) h
theorem more_may {p : Nat → Nat → Bool} {t : Int} {k j : Nat} {xs : List Int} (hk : k ≤ j) (h : frees (mayP p t k) 0 xs = true) : frees (mayP p t j) 0 xs = true :=
  frees_mono (fun _ _ h1 => by unfold mayP at *; exact someAt_more h1 j hk) h
theorem new_may {m : Mk} {yss : List (List Int)} {xs : List Int} {t : Int} {k : Nat} (hK : isKeyB m xs = true) (ht : 0 ≤ t) (hk : 0 < k) (h : frees (setP yss) 0 xs = true) : frees (mayP (setP yss) t k) 0 xs = true := by
  have d7 := key_seven hK
  refine frees_mono (fun i hi h1 => ?_) h
  have ex : xs[i]? = some (xs[i]'hi) := List.getElem?_eq_getElem _
  generalize xs[i]'hi = u at ex
  obtain ⟨u0, u1⟩ := allIn_at d7 ex
  rw [getD_at ex] at *
  exact some_here h1 (by omega) ht hk

set_option maxRecDepth 100000 in
set_option maxHeartbeats 8000000 in
theorem fnWorn_any (A : Option Addr) (n c : Nat) (w : World) (h : Bts w w.heap.size A n) :
    Calls Try.prog 7 #[.slice A n c] w fun e w' => e = .returned (.bool true) ∧ Below w.heap.size w w' := by
  by_cases hn : n ≤ 4096
  rotate_left
  · have d0 : decide (4096 < (n : Int)) = true := by simp; omega
    go_enter Try.func7, Try.ntmps7
    go_wp2_with fail
    refine (big_any _ _ _ _).mono ?_
    rintro e w' ⟨rfl, rfl⟩
    rw [d0]
    go_wp2
    go_ret
    exact ⟨rfl, Below.refl _ _⟩
  have d0 : decide (4096 < (n : Int)) = false := by simp; omega
  have HB := Lib.hid h
  clear h
  go_enter Try.func7, Try.ntmps7
  go_wp2_with fail
  refine (big_any _ _ _ _).mono ?_
  rintro e w' ⟨rfl, rfl⟩
  rw [d0]
  clear d0
  go_wp2_with fail
  refine (drawMayOpen_any w.heap.size A n c w HB.out (Nat.le_refl _) hn).mono ?_
  rintro e w1 ⟨m, V, k, c', zss, A1, q, d, xs, r, z, rfl, hSm, hF, hFew, hkc, hcm, hI, hq, hqd, hdm, b1⟩
  have HS := Lib.hid hF.sets
  have HI := Lib.hid hI.ints
  have HN := Lib.hid (few_size hFew hF.sets.len)
  have HB1 := Lib.hid b1
  have K1 := Lib.hid (IArg.new w1 m V k c')
  clear hF hI hFew hSm b1 HB
  obtain ⟨q0, q1, q2, q3, q4, ck⟩ := K1.out.cells
  by_cases hE : wkE m zss xs r z = 0
  rotate_left
  · obtain ⟨v, hv⟩ : ∃ v, wkE m zss xs r z = v := ⟨_, rfl⟩
    have HV := Lib.hid hv
    have HMV : Hid (moV m zss xs r z = false) := Lib.hid (wkV_not hE _)
    have HSV : Hid (soV m zss xs r z = false) := Lib.hid (wkV_not hE _)
    have e1 : (v != v) = false := by simp
    have e2 : (v != 0) = true := by rw [← hv]; simpa using hE
    clear hE hv
    go_wp2_with fail
    refine (mayOpen_any m _ _ _ zss _ _ _ xs r z _ (HS.out.on K1.out.c) HN.out (HI.out.on K1.out.c) hq).mono ?_
    rw [HMV.out, HV.out]
    rintro e w2 ⟨rfl, b2⟩
    have K2 := Lib.hid (K1.out.on b2)
    clear q0 q1 q2 q3 q4 ck K1 b2
    obtain ⟨q0, q1, q2, q3, q4, ck⟩ := K2.out.cells
    go_wp2_with fail
    refine (specMayOpen_any m _ _ _ zss _ _ _ xs r z _ (HS.out.on K2.out.c) HN.out (HI.out.on K2.out.c) hq hqd hdm).mono ?_
    rw [HMV.out, HV.out]
    rintro e w3 ⟨rfl, b3⟩
    have K3 := Lib.hid (K2.out.on b3)
    clear q0 q1 q2 q3 q4 ck K2 b3
    obtain ⟨q0, q1, q2, q3, q4, ck⟩ := K3.out.cells
    go_wp2_with fail
    refine (surelyOpens_any m _ _ _ zss _ _ _ xs r z _ (HS.out.on K3.out.c) HN.out (HI.out.on K3.out.c) hq).mono ?_
    rw [HSV.out, HV.out]
    rintro e w4 ⟨rfl, b4⟩
    have K4 := Lib.hid (K3.out.on b4)
    clear q0 q1 q2 q3 q4 ck K3 b4
    obtain ⟨q0, q1, q2, q3, q4, ck⟩ := K4.out.cells
    go_wp2_with fail
    refine (specSurelyOpens_any m _ _ _ zss _ _ _ xs r z _ (HS.out.on K4.out.c) HN.out (HI.out.on K4.out.c) hq hqd hdm).mono ?_
    rw [HSV.out, HV.out]
    rintro e w5 ⟨rfl, b5⟩
    have C := below_trans' HB1.out (K4.out.on b5).c
    clear q0 q1 q2 q3 q4 ck K4 b5
    go_wp2
    go_ret
    exact ⟨rfl, C⟩
  obtain ⟨hL, hK, hFt⟩ := wkE_facts hE
  obtain ⟨r0, r1, t0, t1⟩ := fit_facts hFt
  obtain ⟨rn, rfl⟩ : ∃ rn : Nat, r = (rn : Int) := ⟨r.toNat, by omega⟩
  have hpl : plc (rn : Int) = rn + 1 := by unfold plc; omega
  obtain ⟨a, ha⟩ : ∃ a, frees (mayP (setP zss) z (rn + 1)) 0 xs = a := ⟨_, rfl⟩
  obtain ⟨b, hb⟩ : ∃ b, frees (sureP (setP zss) z (rn + 1)) 0 xs = b := ⟨_, rfl⟩
  obtain ⟨pl, hp⟩ : ∃ pl, frees (setP zss) 0 xs = pl := ⟨_, rfl⟩
  have HMV : Hid (moV m zss xs (rn : Int) z = a) := Lib.hid (by unfold moV; rw [(wk_ok hL hK hFt).1, hpl, ha])
  have HSV : Hid (soV m zss xs (rn : Int) z = b) := Lib.hid (by unfold soV; rw [(wk_ok hL hK hFt).1, hpl, hb])
  have HPO : Hid (opensE m zss xs = 0 ∧ opensV m zss xs = pl) := Lib.hid (by rw [(wk_opens hL hK).1, (wk_opens hL hK).2, hp]; exact ⟨rfl, rfl⟩)
  have HWL := Lib.hid (cm_yes hL hFt)
  rw [hpl] at HWL
  have HWE : Hid (wlkE m zss (rn : Int) z = 0) := Lib.hid (by simp [wlkE, hL, hFt])
  have HOO : Hid (opensE m (wornL m zss z (rn + 1)) xs = 0 ∧ opensV m (wornL m zss z (rn + 1)) xs = a) := Lib.hid (by
    have h1 := wk_opens (xs := xs) HWL.out.2.2.1 hK
    rw [h1.1, h1.2, worn_opens hK, ha]; exact ⟨rfl, rfl⟩)
  have hba : b = true → a = true := fun e => by rw [← ha]; exact sure_may (by omega) (hb.trans e)
  have hpa : pl = true → a = true := fun e => by rw [← ha]; exact new_may hK t0 (by omega) (hp.trans e)
  have HMR : Hid (¬ (rn : Int) = 19 → moV m zss xs ((rn : Int) + 1) z = frees (mayP (setP zss) z (rn + 2)) 0 xs ∧ wkE m zss xs ((rn : Int) + 1) z = 0) := Lib.hid (fun h19 => by
    have hf2 : isFit ((rn : Int) + 1) z = true := by
      unfold isFit at *
      rw [Bool.and_eq_true] at *
      exact ⟨inB_true.2 ⟨by omega, by omega⟩, hFt.2⟩
    have h1 := wk_ok (q := mayP (setP zss) z (plc ((rn : Int) + 1))) hL hK hf2
    have hp2 : plc ((rn : Int) + 1) = rn + 2 := by unfold plc; omega
    refine ⟨?_, h1.2⟩
    unfold moV
    rw [h1.1, hp2])
  have HMA : Hid (a = true → frees (mayP (setP zss) z (rn + 2)) 0 xs = true) := Lib.hid (fun e => more_may (by omega) (ha.trans e))
  have HE := Lib.hid hE
  have g1 : IntKind.i64.wrap ((rn : Int) + 1) = (rn : Int) + 1 := IntWalk.i64_in _ (by omega)
  clear hE hL hK hFt hpl ha hb hp
  go_wp2_with fail
  refine (mayOpen_any m _ _ _ zss _ _ _ xs (rn : Int) z _ (HS.out.on K1.out.c) HN.out (HI.out.on K1.out.c) hq).mono ?_
  rw [HMV.out, HE.out]
  rintro e w2 ⟨rfl, b2⟩
  have K2 := Lib.hid (K1.out.on b2)
  clear q0 q1 q2 q3 q4 ck K1 b2
  obtain ⟨q0, q1, q2, q3, q4, ck⟩ := K2.out.cells
  go_wp2_with fail
  refine (specMayOpen_any m _ _ _ zss _ _ _ xs (rn : Int) z _ (HS.out.on K2.out.c) HN.out (HI.out.on K2.out.c) hq hqd hdm).mono ?_
  rw [HMV.out, HE.out]
  rintro e w3 ⟨rfl, b3⟩
  have K3 := Lib.hid (K2.out.on b3)
  clear q0 q1 q2 q3 q4 ck K2 b3
  obtain ⟨q0, q1, q2, q3, q4, ck⟩ := K3.out.cells
  go_wp2_with fail
  refine (surelyOpens_any m _ _ _ zss _ _ _ xs (rn : Int) z _ (HS.out.on K3.out.c) HN.out (HI.out.on K3.out.c) hq).mono ?_
  rw [HSV.out, HE.out]
  rintro e w4 ⟨rfl, b4⟩
  have K4 := Lib.hid (K3.out.on b4)
  clear q0 q1 q2 q3 q4 ck K3 b4
  obtain ⟨q0, q1, q2, q3, q4, ck⟩ := K4.out.cells
  go_wp2_with fail
  refine (specSurelyOpens_any m _ _ _ zss _ _ _ xs (rn : Int) z _ (HS.out.on K4.out.c) HN.out (HI.out.on K4.out.c) hq hqd hdm).mono ?_
  rw [HSV.out, HE.out]
  rintro e w5 ⟨rfl, b5⟩
  have K5 := Lib.hid (K4.out.on b5)
  clear q0 q1 q2 q3 q4 ck K4 b5
  obtain ⟨q0, q1, q2, q3, q4, ck⟩ := K5.out.cells
  have ea : (a != a) = false := by cases a <;> rfl
  have eb : (b != b) = false := by cases b <;> rfl
  go_wp2_with fail
  refine (wornLock_any m _ _ _ zss (rn : Int) z _ (HS.out.on K5.out.c) HN.out).mono ?_
  rw [HWE.out, HWL.out.2.1]
  rintro e w6 ⟨V6, n6, c6, gs6, rfl, hrag, hc6, hcm6, b6⟩
  have K6 := Lib.hid ((K5.out.on b6).on ((Below.refl w6.heap.size w6).alloc (Nat.le_refl _) (.cells #[.slice V6 n6 c6] 30)))
  have S6 := Lib.hid (hrag.sets.alloc (.cells #[.slice V6 n6 c6] 30))
  have X6 := Cell1.new w6 30 (.slice V6 n6 c6)
  have hl6 : n6 + sizeL (wornL m zss z (rn + 1)) ≤ 1048576 := by have := HWL.out.2.2.2.2.2; rw [hrag.sets.len] at this; exact this
  clear q0 q1 q2 q3 q4 ck K5 b6 hrag eb
  obtain ⟨q0, q1, q2, q3, q4, _⟩ := K6.out.cells
  have cx := X6.cell
  go_wp2_with fail
  refine (opens_any m _ _ _ _ _ _ _ xs _ S6.out hl6 (HI.out.on K6.out.c) hq).mono ?_
  rw [HOO.out.1, HOO.out.2]
  rintro e w7 ⟨rfl, b7⟩
  have K7 := Lib.hid (K6.out.on b7)
  clear q0 q1 q2 q3 q4 cx K6 S6 X6 b7
  obtain ⟨q0, q1, q2, q3, q4, ck⟩ := K7.out.cells
  go_wp2_with fail
  refine (opens_any m _ _ _ zss _ _ _ xs _ (HS.out.on K7.out.c) HN.out (HI.out.on K7.out.c) hq).mono ?_
  rw [HPO.out.1, HPO.out.2]
  rintro e w8 ⟨rfl, b8⟩
  have K8 := Lib.hid (K7.out.on b8)
  clear q0 q1 q2 q3 q4 ck K7 b8
  obtain ⟨q0, q1, q2, q3, q4, ck⟩ := K8.out.cells
  by_cases h19 : (rn : Int) = 19
  · have C := below_trans' HB1.out K8.out.c
    have d19 : ((rn : Int) == 19) = true := by simpa using h19
    clear h19
    rcases a with _ | _ <;> rcases b with _ | _ <;> rcases pl with _ | _ <;> first | (exact absurd (hba rfl) Bool.false_ne_true) | (exact absurd (hpa rfl) Bool.false_ne_true) | skip
    all_goals
      clear hba hpa
      go_wp2
      go_ret
      exact ⟨rfl, C⟩
  · have d19 : ((rn : Int) == 19) = false := by simpa using h19
    have HM2 := Lib.hid (HMR.out h19)
    obtain ⟨mr, hmr⟩ : ∃ mr, frees (mayP (setP zss) z (rn + 2)) 0 xs = mr := ⟨_, rfl⟩
    have hma : a = true → mr = true := fun e => by rw [← hmr]; exact HMA.out e
    have HM3 : Hid (moV m zss xs ((rn : Int) + 1) z = mr) := Lib.hid (HM2.out.1.trans hmr)
    have HM4 := Lib.hid hma
    clear h19 hmr hma
    rcases a with _ | _ <;> rcases b with _ | _ <;> rcases pl with _ | _ <;> first | (exact absurd (hba rfl) Bool.false_ne_true) | (exact absurd (hpa rfl) Bool.false_ne_true) | skip
    all_goals
      clear hba hpa
      go_wp2_with fail
      refine (mayOpen_any m _ _ _ zss _ _ _ xs ((rn : Int) + 1) z _ (HS.out.on K8.out.c) HN.out (HI.out.on K8.out.c) hq).mono ?_
      rw [HM3.out, HM2.out.2]
      rintro e w9 ⟨rfl, b9⟩
      have C := below_trans' HB1.out (K8.out.on b9).c
      clear q0 q1 q2 q3 q4 ck K8 b9
      rcases mr with _ | _ <;> first | (exact absurd (HM4.out (by first | rfl | trivial)) Bool.false_ne_true) | skip
      all_goals
        clear HM4
        go_wp2
        go_ret
        exact ⟨rfl, C⟩

end Go.Proofs.Ytbfnffecmglgfaa
