/- FnWearLimits: with the limit a key surely opens a lock, and with more wear it does not. -/
import Derived.Test.YtbfnffecmglgfaaFnWorn
namespace Go.Proofs.Ytbfnffecmglgfaa
open Go Go.RowKit

theorem lim_yes {p : Nat → Nat → Bool} {t : Int} {xs : List Int} : ∀ (k : Nat), 0 ≤ limTo p t xs k → ∃ L : Nat, limTo p t xs k = (L : Int) ∧ L < k ∧ frees (sureP p t (L + 1)) 0 xs = true ∧ ∀ j, L < j → j < k → frees (sureP p t (j + 1)) 0 xs = false
  | 0, h => by unfold limTo at h; omega
  | k + 1, h => by
    have hu : limTo p t xs (k + 1) = if frees (sureP p t (k + 1)) 0 xs then (k : Int) else limTo p t xs k := rfl
    by_cases hf : frees (sureP p t (k + 1)) 0 xs = true
    · rw [if_pos hf] at hu
      exact ⟨k, hu, by omega, hf, fun j h3 h4 => by omega⟩
    · rw [if_neg hf] at hu
      rw [hu] at h
      obtain ⟨L, e, hL, h1, h2⟩ := lim_yes k h
      refine ⟨L, hu.trans e, by omega, h1, fun j h3 h4 => ?_⟩
      rcases Nat.lt_or_ge j k with h5 | h5
      · exact h2 j h3 h5
      · obtain rfl : j = k := by omega
        exact Bool.eq_false_iff.mpr hf
theorem wl_law {m : Mk} {yss : List (List Int)} {xs : List Int} {t : Int} : wlE m yss xs t ≠ 0 ∨ (wlE m yss xs t = 0 ∧ ∃ L : Nat, wlV m yss xs t = (L : Int) ∧ L ≤ 19 ∧ (wkE m yss xs (L : Int) t = 0 ∧ soV m yss xs (L : Int) t = true) ∧ (¬ (L : Int) = 19 → wkE m yss xs ((L : Int) + 1) t = 0 ∧ soV m yss xs ((L : Int) + 1) t = false)) := by
  by_cases h : wkE m yss xs 0 t = 0
  rotate_left
  · left; rw [(wl_not h).2]; exact h
  obtain ⟨h1, h2⟩ := wl_yes h
  by_cases h3 : limTo (setP yss) t xs 20 < 0
  · left; rw [(h1 h3).2]; decide
  right
  obtain ⟨e1, e2⟩ := h2 h3
  obtain ⟨L, e, hL, f1, f2⟩ := lim_yes 20 (by omega : 0 ≤ limTo (setP yss) t xs 20)
  refine ⟨e2, L, e1.trans e, by omega, ⟨(wkE_wear m yss xs t (by omega) (by omega)).trans h, (so_is h (by omega)).trans f1⟩, fun h19 => ?_⟩
  have hc : ((L : Int) + 1) = ((L + 1 : Nat) : Int) := by omega
  rw [hc]
  exact ⟨(wkE_wear m yss xs t (by omega) (by omega)).trans h, (so_is h (by omega)).trans (f2 (L + 1) (by omega) (by omega))⟩
theorem filter_more {p q : List Int → Bool} : ∀ (l : List (List Int)), (∀ x ∈ l, p x = true → q x = true) → (l.filter p).length ≤ (l.filter q).length
  | [], _ => Nat.le_refl _
  | x :: l, h => by
    have ih := filter_more l (fun y hy => h y (List.mem_cons_of_mem _ hy))
    have hx := h x (List.mem_cons_self)
    rw [List.filter_cons, List.filter_cons]
    rcases hp : p x with _ | _
    · rw [if_neg Bool.false_ne_true]
      split
      · rw [List.length_cons]; omega
      · exact ih
    · rw [if_pos rfl, if_pos (hx hp), List.length_cons, List.length_cons]; omega
theorem cm_law {m : Mk} {yss : List (List Int)} {wr t : Int} (h : wlkE m yss wr t = 0) : lkE m yss = 0 ∧ coV m yss ≤ cmV m yss wr t := by
  have hLF : lockB m yss = true ∧ isFit wr t = true := by
    unfold wlkE at h
    rcases hL : lockB m yss with _ | _ <;> rcases hF : isFit wr t with _ | _ <;> simp_all
  obtain ⟨hL, hF⟩ := hLF
  obtain ⟨r0, r1, t0, t1⟩ := fit_facts hF
  obtain ⟨hm, _⟩ := lockB_facts hL
  refine ⟨(co_yes hL).2, ?_⟩
  rw [(co_yes hL).1, (cm_yes hL hF).1, op_all, op_all]
  refine Int.ofNat_le.mpr (filter_more _ (fun x hx h1 => new_may (all_are_keys hm hx) t0 (by unfold plc; omega) h1))

set_option maxRecDepth 100000 in
set_option maxHeartbeats 8000000 in
theorem fnWearLimits_any (A : Option Addr) (n c : Nat) (w : World) (h : Bts w w.heap.size A n) :
    Calls Try.prog 8 #[.slice A n c] w fun e w' => e = .returned (.bool true) ∧ Below w.heap.size w w' := by
  by_cases hn : n ≤ 4096
  rotate_left
  · have d0 : decide (4096 < (n : Int)) = true := by simp; omega
    go_enter Try.func8, Try.ntmps8
    go_wp2_with fail
    refine (big_any _ _ _ _).mono ?_
    rintro e w' ⟨rfl, rfl⟩
    rw [d0]
    go_wp2
    go_ret
    exact ⟨rfl, Below.refl _ _⟩
  have d0 : decide (4096 < (n : Int)) = false := by simp; omega
  have HB := Lib.hid h
  clear h
  go_enter Try.func8, Try.ntmps8
  go_wp2_with fail
  refine (big_any _ _ _ _).mono ?_
  rintro e w' ⟨rfl, rfl⟩
  rw [d0]
  clear d0
  go_wp2_with fail
  refine (drawWearLimit_any w.heap.size A n c w HB.out (Nat.le_refl _) hn).mono ?_
  rintro e w1 ⟨m, V, k, c', zss, A1, q, d, xs, z, rfl, hSm, hF, hFew, hkc, hcm, hI, hq, hqd, hdm, b1⟩
  have HS := Lib.hid hF.sets
  have HI := Lib.hid hI.ints
  have HN := Lib.hid (few_sizeD hFew hF.sets.len)
  have HB1 := Lib.hid b1
  have K1 := Lib.hid (IArg.new w1 m V k c')
  clear hF hI hFew hSm b1
  obtain ⟨q0, q1, q2, q3, q4, ck⟩ := K1.out.cells
  obtain ⟨lv, hlv⟩ : ∃ lv, wlV m zss xs z = lv := ⟨_, rfl⟩
  obtain ⟨le, hle⟩ : ∃ le, wlE m zss xs z = le := ⟨_, rfl⟩
  have HLV := Lib.hid hlv
  have HLE := Lib.hid hle
  have F := wl_law (m := m) (yss := zss) (xs := xs) (t := z)
  rw [hlv, hle] at F
  have HF := Lib.hid F
  have e1 : (le != le) = false := by simp
  have e2 : (lv != lv) = false := by simp
  clear hlv hle F
  go_wp2_with fail
  refine (wearLimit_any m _ _ _ zss _ _ _ xs z _ (HS.out.on K1.out.c) HN.out (HI.out.on K1.out.c) hq).mono ?_
  rw [HLV.out, HLE.out]
  rintro e w2 ⟨rfl, b2⟩
  have K2 := Lib.hid (K1.out.on b2)
  clear q0 q1 q2 q3 q4 ck K1 b2
  obtain ⟨q0, q1, q2, q3, q4, ck⟩ := K2.out.cells
  go_wp2_with fail
  refine (specWearLimit_any m _ _ _ zss _ _ _ xs z _ (HS.out.on K2.out.c) HN.out (HI.out.on K2.out.c) hq hqd hdm).mono ?_
  rw [HLV.out, HLE.out]
  rintro e w3 ⟨rfl, b3⟩
  have K3 := Lib.hid (K2.out.on b3)
  clear q0 q1 q2 q3 q4 ck K2 b3
  go_wp2_with fail
  refine (drawCountMayOpen_any w.heap.size A n c _ (HB.out.keep (fun p hp => Below.cell (below_trans' HB1.out K3.out.c) hp)) (below_trans' HB1.out K3.out.c).size hn).mono ?_
  rintro e w4 ⟨m2, V2, k2, c2, yss, r, t, rfl, hSm2, hF2, hFew2, hkc2, hcm2, b4⟩
  have HS2 := Lib.hid hF2.sets
  have HN2 := Lib.hid (few_sizeD hFew2 hF2.sets.len)
  have KA := Lib.hid (IArg.new w4 m2 V2 k2 c2)
  have K4 := Lib.hid ((K3.out.on b4).on KA.out.c)
  clear hF2 hFew2 hSm2 K3 b4 HB
  obtain ⟨cv, hcv⟩ : ∃ cv, cmV m2 yss r t = cv := ⟨_, rfl⟩
  obtain ⟨ce, hce⟩ : ∃ ce, wlkE m2 yss r t = ce := ⟨_, rfl⟩
  have HCV := Lib.hid hcv
  have HCE := Lib.hid hce
  have HCL : Hid (ce = 0 → lkE m2 yss = 0 ∧ coV m2 yss ≤ cv) := Lib.hid (fun e => by rw [← hcv]; exact cm_law (hce.trans e))
  have e3 : (ce != ce) = false := by simp
  have e4 : (cv != cv) = false := by simp
  clear hcv hce
  obtain ⟨q0, q1, q2, q3, q4, ck⟩ := KA.out.cells
  go_wp2_with fail
  refine (countMayOpen_any m2 _ _ _ yss r t _ (HS2.out.on KA.out.c) HN2.out).mono ?_
  rw [HCV.out, HCE.out]
  rintro e w5 ⟨rfl, b5⟩
  have K5 := Lib.hid (K4.out.on b5)
  have KB := Lib.hid (KA.out.on b5)
  clear q0 q1 q2 q3 q4 ck KA K4 b5
  obtain ⟨q0, q1, q2, q3, q4, ck⟩ := KB.out.cells
  go_wp2_with fail
  refine (specCountMayOpen_any m2 _ _ _ yss r t _ (HS2.out.on KB.out.c) HN2.out).mono ?_
  rw [HCV.out, HCE.out]
  rintro e w6 ⟨rfl, b6⟩
  have K6 := Lib.hid (K5.out.on b6)
  have KC := Lib.hid (KB.out.on b6)
  clear q0 q1 q2 q3 q4 ck KB K5 b6
  by_cases h0 : ce = 0
  rotate_left
  · have d0 : (ce == 0) = false := by simpa using h0
    clear h0
    rcases HF.out with hne | ⟨h0, L, hLv, hL, hs, hm⟩
    · have dn : (le != 0) = true := by simpa using hne
      have C := below_trans' HB1.out K6.out.c
      clear hne
      go_wp2
      go_ret
      exact ⟨rfl, C⟩
    subst h0 hLv
    have HT := Lib.hid hs
    have HM := Lib.hid hm
    clear hs hm HLV HLE HF
    obtain ⟨q0, q1, q2, q3, q4, ck⟩ := K6.out.cells
    go_wp2_with fail
    refine (surelyOpens_any m _ _ _ zss _ _ _ xs (L : Int) z _ (HS.out.on K6.out.c) HN.out (HI.out.on K6.out.c) hq).mono ?_
    rw [HT.out.2, HT.out.1]
    rintro e w8 ⟨rfl, bw8⟩
    have C := below_trans' HB1.out (K6.out.on bw8).c
    have g1 : IntKind.i64.wrap ((L : Int) + 1) = (L : Int) + 1 := IntWalk.i64_in _ (by omega)
    by_cases h19 : (L : Int) = 19
    · have d19 : ((L : Int) == 19) = true := by simpa using h19
      clear h19 HM
      go_wp2
      go_ret
      exact ⟨rfl, C⟩
    have d19 : ((L : Int) == 19) = false := by simpa using h19
    have HM2 := Lib.hid (HM.out h19)
    have K8 := Lib.hid (K6.out.on bw8)
    clear h19 HM C q0 q1 q2 q3 q4 ck K6 bw8
    obtain ⟨q0, q1, q2, q3, q4, ck⟩ := K8.out.cells
    go_wp2_with fail
    refine (surelyOpens_any m _ _ _ zss _ _ _ xs ((L : Int) + 1) z _ (HS.out.on K8.out.c) HN.out (HI.out.on K8.out.c) hq).mono ?_
    rw [HM2.out.2, HM2.out.1]
    rintro e w9 ⟨rfl, bw9⟩
    have C := below_trans' HB1.out (K8.out.on bw9).c
    go_wp2
    go_ret
    exact ⟨rfl, C⟩
  subst h0
  obtain ⟨ov, hov⟩ : ∃ ov, coV m2 yss = ov := ⟨_, rfl⟩
  have HOV := Lib.hid hov
  have HLK := Lib.hid (HCL.out rfl).1
  have dg : decide (cv < ov) = false := by have := (HCL.out rfl).2; rw [hov] at this; simp; omega
  clear hov HCL e3
  obtain ⟨q0, q1, q2, q3, q4, ck⟩ := KC.out.cells
  go_wp2_with fail
  refine (countOpeners_any m2 _ _ _ yss _ (HS2.out.on KC.out.c) HN2.out).mono ?_
  rw [HOV.out, HLK.out]
  rintro e w7 ⟨rfl, b7⟩
  have K7 := Lib.hid (K6.out.on b7)
  clear q0 q1 q2 q3 q4 ck KC K6 b7
  rcases HF.out with hne | ⟨h0, L, hLv, hL, hs, hm⟩
  · have dn : (le != 0) = true := by simpa using hne
    have C := below_trans' HB1.out K7.out.c
    clear hne
    go_wp2
    go_ret
    exact ⟨rfl, C⟩
  subst h0 hLv
  have HT := Lib.hid hs
  have HM := Lib.hid hm
  clear hs hm HLV HLE HF
  obtain ⟨q0, q1, q2, q3, q4, ck⟩ := K7.out.cells
  go_wp2_with fail
  refine (surelyOpens_any m _ _ _ zss _ _ _ xs (L : Int) z _ (HS.out.on K7.out.c) HN.out (HI.out.on K7.out.c) hq).mono ?_
  rw [HT.out.2, HT.out.1]
  rintro e w8 ⟨rfl, bw8⟩
  have C := below_trans' HB1.out (K7.out.on bw8).c
  have g1 : IntKind.i64.wrap ((L : Int) + 1) = (L : Int) + 1 := IntWalk.i64_in _ (by omega)
  by_cases h19 : (L : Int) = 19
  · have d19 : ((L : Int) == 19) = true := by simpa using h19
    clear h19 HM
    go_wp2
    go_ret
    exact ⟨rfl, C⟩
  have d19 : ((L : Int) == 19) = false := by simpa using h19
  have HM2 := Lib.hid (HM.out h19)
  have K8 := Lib.hid (K7.out.on bw8)
  clear h19 HM C q0 q1 q2 q3 q4 ck K7 bw8
  obtain ⟨q0, q1, q2, q3, q4, ck⟩ := K8.out.cells
  go_wp2_with fail
  refine (surelyOpens_any m _ _ _ zss _ _ _ xs ((L : Int) + 1) z _ (HS.out.on K8.out.c) HN.out (HI.out.on K8.out.c) hq).mono ?_
  rw [HM2.out.2, HM2.out.1]
  rintro e w9 ⟨rfl, bw9⟩
  have C := below_trans' HB1.out (K8.out.on bw9).c
  go_wp2
  go_ret
  exact ⟨rfl, C⟩

end Go.Proofs.Ytbfnffecmglgfaa
