/- CountFamilies and FamiliesOf of the model, and the laws of both. -/
import Derived.Test.YtpabccgndhmcdaaFamS
namespace Go.Proofs.Ytpabccgndhmcdaa
open Go.RowKit

theorem specCountFamilies_any (s v d : Int) (w : World) :
    Calls Try.prog 21 #[.int .i64 s, .int .i64 v, .int .i64 d] w fun e w' => e = .returned (.tuple #[.int .i64 (cfV s v d), .int .i64 (cfE s v d)]) ∧ Below w.heap.size w w' := by
  rcases hs : sdB s v d with _ | _
  · rw [(cf_no hs).1, (cf_no hs).2]
    go_enter Try.func21, Try.ntmps21
    go_wp2_with (go_at_call 57; refine (l07Distance_any _ _ _ _).mono ?_; rw [hs]; rintro e w' ⟨rfl, rfl⟩)
    go_ret2
    exact ⟨rfl, Below.refl _ _⟩
  · rw [(cf_yes hs).1, (cf_yes hs).2]
    obtain ⟨s0, s1, v0, v1⟩ := sys_true (sd_true hs).1
    obtain ⟨S, rfl⟩ : ∃ S : Nat, s = (S : Int) := ⟨s.toNat, by omega⟩
    go_enter Try.func21, Try.ntmps21
    go_wp2_with (go_at_call 57; refine (l07Distance_any _ _ _ _).mono ?_; rw [hs]; rintro e w' ⟨rfl, rfl⟩)
    refine (l07Families_any S v d _ hs).mono ?_
    rintro e w1 ⟨V, n, c, rfl, hS, hc1, hc2, hn, b1⟩
    have HE : Hid ((n : Int) = ((famAll (S : Int) v d).length : Int)) := Lib.hid (by
      unfold famAll
      rw [Int.toNat_natCast, hS.len])
    clear hS
    go_wp2
    go_ret2
    exact ⟨ret_int2 HE.out rfl, b1⟩

theorem lawCountFamilies_any (s v d : Int) (w : World) :
    Calls Try.prog 9 #[.int .i64 s, .int .i64 v, .int .i64 d] w fun e w' => e = .returned (.bool true) ∧ Below w.heap.size w w' := by
  have d1 : (cfV s v d != cfV s v d) = false := by simp
  have d2 : (cfE s v d != cfE s v d) = false := by simp
  go_enter Try.func9, Try.ntmps9
  go_wp2_with fail
  refine (specCountFamilies_any s v d _).mono ?_
  rintro e w1 ⟨rfl, b1⟩
  go_wp2_with fail
  refine (countFamilies_any s v d _).mono ?_
  rintro e w2 ⟨rfl, b2⟩
  have b2' := below_trans' b1 b2
  clear b1 b2
  go_wp2
  go_ret
  exact ⟨rfl, b2'⟩

theorem fam_pos {s : Nat} {v d : Int} {n : Nat} (h : 1 ≤ n) : 0 < (famTo s v d n).length := by
  obtain ⟨r, hr⟩ := fam_pre s v d 1 n h
  have : famTo s v d 1 = [codeN s v 0] := fam_yes (k := 0) rfl
  rw [hr, this]
  simp
theorem take_min {α : Type} (l : List α) (m : Nat) : l.take (min m l.length) = l.take m := by
  by_cases h : m ≤ l.length
  · rw [Nat.min_eq_left h]
  · rw [Nat.min_eq_right (by omega), List.take_length, List.take_of_length_le (by omega)]

theorem specFamiliesOf_any (s v d m : Int) (w : World) :
    Calls Try.prog 19 #[.int .i64 s, .int .i64 v, .int .i64 d, .int .i64 m] w
      fun e w' => ∃ V n c, e = .returned (.tuple #[.slice V n c, .int .i64 (foE s v d m)]) ∧ Sets w' w'.heap.size V n (foL s v d m) ∧ n ≤ c ∧ c ≤ 9223372036854775807 ∧ Below w.heap.size w w' := by
  rcases hs : sdB s v d with _ | _
  · rw [(fo_no (m := m) (by simp [foOk, hs])).1, (fo_no (m := m) (by simp [foOk, hs])).2]
    go_enter Try.func19, Try.ntmps19
    go_wp2_with (go_at_call 57; refine (l07Distance_any _ _ _ _).mono ?_; rw [hs]; rintro e w' ⟨rfl, rfl⟩)
    go_ret2
    exact ⟨none, 0, 0, rfl, Sets.nil _, Nat.le_refl _, by omega, Below.refl _ _⟩
  rcases hm : inB m 0 60 with _ | _
  · rw [(fo_no (m := m) (by simp [foOk, hm])).1, (fo_no (m := m) (by simp [foOk, hm])).2]
    go_enter Try.func19, Try.ntmps19
    go_wp2_with (first | (go_at_call 57; refine (l07Distance_any _ _ _ _).mono ?_; rw [hs]; rintro e w' ⟨rfl, rfl⟩) | (go_at_call 63; refine (l01In_any _ _ _ _).mono ?_; rw [hm]; rintro e w' ⟨rfl, rfl⟩))
    go_ret2
    exact ⟨none, 0, 0, rfl, Sets.nil _, Nat.le_refl _, by omega, Below.refl _ _⟩
  · rw [(fo_yes (m := m) (by simp [foOk, hm, hs])).1, (fo_yes (m := m) (by simp [foOk, hm, hs])).2]
    obtain ⟨s0, s1, v0, v1⟩ := sys_true (sd_true hs).1
    obtain ⟨S, rfl⟩ : ∃ S : Nat, s = (S : Int) := ⟨s.toNat, by omega⟩
    obtain ⟨m0, m1⟩ := inB_true.1 hm
    obtain ⟨M, rfl⟩ : ∃ M : Nat, m = (M : Int) := ⟨m.toNat, by omega⟩
    have HP := Lib.hid (pow_small (k := S) v0 v1 (by omega))
    have HA : Hid (famAll (S : Int) v d = famTo S v d (powC v S).toNat) := Lib.hid (by unfold famAll; rw [Int.toNat_natCast])
    rw [HA.out, Int.toNat_natCast]
    go_enter Try.func19, Try.ntmps19
    go_wp2_with (first | (go_at_call 57; refine (l07Distance_any _ _ _ _).mono ?_; rw [hs]; rintro e w' ⟨rfl, rfl⟩) | (go_at_call 63; refine (l01In_any _ _ _ _).mono ?_; rw [hm]; rintro e w' ⟨rfl, rfl⟩))
    refine (l07Families_any S v d _ hs).mono ?_
    rintro e w1 ⟨V, n, c, rfl, hS, hc1, hc2, hn, b1⟩
    have hpos : 0 < n := by
      rw [← hS.len]
      exact fam_pos (by have := HP.out; omega)
    obtain ⟨ad, _, _, _, _, rfl, _⟩ := hS.at_ hpos
    obtain ⟨j, hj⟩ : ∃ j : Nat, j = min M n := ⟨_, rfl⟩
    have hmin : min (M : Int) (n : Int) = (j : Int) := by omega
    have hjn : j ≤ n := by omega
    have HT : Hid ((famTo S v d (powC v S).toNat).take j = (famTo S v d (powC v S).toNat).take M) := Lib.hid (by rw [hj, ← hS.len, take_min])
    have HS := Lib.hid (hS.first hjn)
    have j0 : (0 : Int) ≤ (j : Int) := by omega
    have j1 : (j : Int) ≤ (c : Int) := by omega
    clear hS hj
    go_wp2
    go_ret2
    exact ⟨_, _, _, rfl, by rw [← HT.out]; exact HS.out, by omega, hc2, b1⟩

theorem size_five {yss : List (List Int)} (h : ∀ ys ∈ yss, ys.length ≤ 5) : ∀ k, sizeAt yss k ≤ 5 * k
  | 0 => Nat.le_refl _
  | k + 1 => by
    have ih := size_five h k
    rcases hq : yss[k]? with _ | ys
    · have h1 : yss.length ≤ k := List.getElem?_eq_none_iff.1 hq
      have h2 : sizeAt yss (k + 1) = sizeAt yss k + (yss.getD k []).length := rfl
      rw [h2, List.getD_eq_getElem?_getD, hq]
      simp
      omega
    · rw [sizeAt_step hq]
      have := h ys (List.mem_of_getElem? hq)
      omega
theorem fo_size (s v d m : Int) : (foL s v d m).length + sizeL (foL s v d m) ≤ 1048576 := by
  rcases hk : foOk s v d m with _ | _
  · rw [(fo_no hk).1]; simp [sizeL, sizeAt]
  · rw [(fo_yes hk).1]
    have hk' := hk
    unfold foOk at hk'
    simp only [Bool.and_eq_true] at hk'
    obtain ⟨s0, s1, v0, v1⟩ := sys_true (sd_true hk'.1).1
    have h1 := inB_true.1 hk'.2
    have hl : ((famAll s v d).take m.toNat).length ≤ 60 := by rw [List.length_take]; omega
    have h5 : ∀ ys ∈ (famAll s v d).take m.toNat, ys.length ≤ 5 := by
      intro ys hys
      obtain ⟨i, _, rfl⟩ := fam_mem (List.mem_of_mem_take hys)
      rw [codeN_len]; omega
    have := size_five h5 ((famAll s v d).take m.toNat).length
    unfold sizeL
    omega

set_option maxHeartbeats 1000000 in
theorem lawFamiliesOf_any (s v d m : Int) (w : World) :
    Calls Try.prog 8 #[.int .i64 s, .int .i64 v, .int .i64 d, .int .i64 m] w fun e w' => e = .returned (.bool true) ∧ Below w.heap.size w w' := by
  have d1 : (foE s v d m != foE s v d m) = false := by simp
  obtain ⟨yss, hy⟩ : ∃ yss, foL s v d m = yss := ⟨_, rfl⟩
  have HN : Hid (yss.length + sizeL yss ≤ 1048576) := Lib.hid (by rw [← hy]; exact fo_size s v d m)
  have HY := Lib.hid hy
  clear hy
  go_enter Try.func8, Try.ntmps8
  go_wp2_with fail
  refine (specFamiliesOf_any s v d m _).mono ?_
  rw [HY.out]
  rintro e w1 ⟨V1, n1, c1, rfl, S1', _, _, b1⟩
  obtain ⟨n, hn⟩ : ∃ n, n = n1 := ⟨_, rfl⟩
  subst hn
  have HL := Lib.hid S1'.len
  have S1 := Lib.hid S1'
  have HM : Hid (n + sizeL yss ≤ 1048576) := Lib.hid (by rw [← HL.out]; exact HN.out)
  have hs01 := b1.size
  clear S1'
  go_wp2_with fail
  refine (familiesOf_any s v d m _).mono ?_
  rw [HY.out]
  rintro e w2 ⟨V2, n2, c2, gs2, rfl, R2, _, _, b2⟩
  obtain rfl : n = n2 := (R2.len.symm.trans HL.out).symm
  have S2 := Lib.hid ((S1.out.below b2).more b2.size)
  have T2 := Lib.hid R2
  have B2 := Lib.hid b2
  have C2 := Lib.hid (below_trans' b1 b2)
  clear R2 b1 b2
  go_wp2_with fail
  refine (eqSets_true _ _ _ _ _ yss _ T2.out.sets S2.out HM.out).mono ?_
  rintro e w3 ⟨rfl, q, rfl⟩
  have T3 := Lib.hid (T2.out.drewN q)
  have B3 := Lib.hid (below_drewN B2.out q)
  have C3 := Lib.hid (below_drewN C2.out q)
  clear T2 S2 B2 C2
  generalize w2.drewN q = w3 at T3 B3 C3 ⊢
  go_wp2_with fail
  refine (markRag_any _ n _ _ _ yss 1 _ T3.out HM.out (by omega) (by omega)).mono ?_
  rintro e w4 ⟨rfl, R4, ap4⟩
  have hap := ap4 _ T3.out.top
  have T4 := Lib.hid R4
  have B4 := Lib.hid (B3.out.trans (hap.below B3.out.size))
  have C4 := Lib.hid (C3.out.trans ((hap.below B3.out.size).mono hs01))
  clear R4 ap4 hap T3 B3 C3
  obtain ⟨ra, rb⟩ := rAt_range (k := 1) (yss := yss) (i := n) (by omega) (by omega) (by have := HN.out; omega) (by have := HL.out; omega)
  have e1 : (rAt 1 yss n != rAt 1 yss n) = false := by simp
  have e2 : ¬ rAt 1 yss n < 0 := by omega
  go_wp2_with fail
  refine (heldSets_any _ n _ yss 1 _ T4.out.sets HM.out (by omega) (by omega)).mono ?_
  rintro e w' ⟨rfl, rfl⟩
  go_wp2_with fail
  refine (familiesOf_any s v d m _).mono ?_
  rw [HY.out]
  rintro e w5 ⟨V5, n5, c5, gs5, rfl, R5, _, _, b5⟩
  obtain rfl : n = n5 := (R5.len.symm.trans HL.out).symm
  have T5 := Lib.hid (T4.out.on b5)
  have B5 := Lib.hid (B4.out.trans (b5.mono B4.out.size))
  have C5 := Lib.hid (below_trans' C4.out b5)
  have S5 := Lib.hid ((S1.out.below B5.out).more B5.out.size)
  have U5 := Lib.hid R5.sets
  clear R5 b5 T4 B4 C4
  go_wp2_with fail
  refine (eqSets_true _ _ _ _ _ yss _ U5.out S5.out HM.out).mono ?_
  rintro e w6 ⟨rfl, q6, rfl⟩
  have T6 := Lib.hid (T5.out.drewN q6)
  have C6 := Lib.hid (below_drewN C5.out q6)
  clear T5 B5 C5 S5 U5
  generalize w5.drewN q6 = w6 at T6 C6 ⊢
  go_wp2_with fail
  refine (heldSets_any _ n _ yss 1 _ T6.out.sets HM.out (by omega) (by omega)).mono ?_
  rintro e w' ⟨rfl, rfl⟩
  go_wp2
  go_ret
  exact ⟨rfl, C6.out⟩

end Go.Proofs.Ytpabccgndhmcdaa
