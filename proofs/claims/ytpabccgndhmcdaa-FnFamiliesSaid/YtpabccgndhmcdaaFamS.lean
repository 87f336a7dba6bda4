/- The model's families: the function that lists them, CountFamilies and FamiliesOf: contracts. CountFamilies and FamiliesOf of the model, and the laws of both. -/
import Derived.Test.YtpabccgndhmcdaaFamL
import Derived.Test.YtpabccgndhmcdaaBuilt
import Derived.Lib.MinMax
namespace Go.Proofs.Ytpabccgndhmcdaa
open Go.RowKit

set_option maxRecDepth 100000 in
set_option maxHeartbeats 4000000 in
theorem l07Families_any (s : Nat) (v d : Int) (w : World) (hs : sdB (s : Int) v d = true) :
    Calls Try.prog 59 #[.int .i64 (s : Int), .int .i64 v, .int .i64 d] w
      fun e w' => ∃ V n c, e = .returned (.slice V n c) ∧ Sets w' w'.heap.size V n (famTo s v d (powC v s).toNat) ∧ n ≤ c ∧ c ≤ 9223372036854775807 ∧ n ≤ 3125 ∧ Below w.heap.size w w' := by
  obtain ⟨hy, d0, d1⟩ := sd_true hs
  obtain ⟨s0, s1, v0, v1⟩ := sys_true hy
  have HP := Lib.hid (pow_small (k := s) v0 v1 (by omega))
  obtain ⟨jj, hj0, hy0, hy1, hy2⟩ := info_parts Try.info24'
  have HG := Lib.hid (And.intro hj0 (And.intro hy0 (And.intro hy1 hy2)))
  have R0 := Lib.hid (Stack.none_ (rowNil (w := w) (t := 24) (s := 1) (base := w.heap.size) (Nat.le_refl _)))
  have b0 := Lib.hid (below_box w (.cells #[] 24))
  clear hj0 hy0 hy1 hy2 hs hy
  go_enter Try.func59, Try.ntmps59
  go_wp2
  go_loopw [7, 8] (fun y x wr => ∃ (k n : Nat) (vals : List Value) (z : Value), z = y ∧ x = .int .i64 k ∧ (k : Int) ≤ powC v s ∧ (famTo s v d k).length = n ∧ n ≤ k ∧ Hid (Stack wr w.heap.size z n vals (famTo s v d k)) ∧ Hid (Below w.heap.size w wr)) (fun _ x _ => (5000 - intOf x).toNat)
  case atStart => exact ⟨0, 0, [], _, rfl, rfl, by have := HP.out; omega, rfl, Nat.le_refl _, R0, b0⟩
  case round =>
    obtain ⟨k, n, vals, z, rfl, rfl, hk, hn, hnk, hst, hb⟩ := hrel
    clear R0 b0
    have HN := Lib.hid hn
    have hk3 : k ≤ 3125 := by have := HP.out; omega
    obtain ⟨V, c, rfl, hs1, hc1, hc2⟩ := hst.out.sets
    have HS1 := Lib.hid hs1
    clear hs1 hn
    have hpw : (s : Int).toNat = s := by simp
    by_cases hlt : (k : Int) < powC v s
    · go_wp2_with (go_at_call 65; refine (l07Power_any _ _ _ v0 v1 (by omega) s1).mono ?_; rintro e w' ⟨rfl, rfl⟩)
      refine (l07At_any s v (k : Int) _ (by omega) v0 v1 (by omega) (by omega)).mono ?_
      rintro e w2 ⟨rfl, r2, b2⟩
      have I2 := Lib.hid (Ints.of_row r2 (codeN_len s v k))
      have G2 := Lib.hid r2
      have B2 := Lib.hid (below_trans' hb.out b2)
      have S2 := Lib.hid (hst.out.on b2)
      have T2 := Lib.hid (HS1.out.on b2)
      have hsz := hb.out.size
      have hsz2 := b2.size
      have hg2 := r2.lt
      clear r2 b2
      rcases hf : farB d (famTo s v d k) (codeN s v k) with _ | _
      · have HF := Lib.hid (fam_not hf)
        go_wp2_with fail
        refine (l07Apart_at _ d _ n c _ _ s s _ _ hf T2.out (by omega) I2.out (by omega) (fun j ys hj => fam_len hj)).mono ?_
        rintro e w3 ⟨rfl, q, rfl⟩
        have S3 := Lib.hid (S2.out.drewN q)
        have B3 := Lib.hid (below_drewN B2.out q)
        clear T2 S2 B2 I2 G2 hg2
        go_wp2
        go_roundw
        case rel => exact ⟨k + 1, n, vals, _, rfl, by go_num, by omega, by rw [HF.out]; exact HN.out, by omega, by rw [HF.out]; exact S3, B3⟩
        case measure => simp [intOf]; omega
      · have HF := Lib.hid (fam_yes hf)
        go_wp2_with fail
        refine (l07Apart_at _ d _ n c _ _ s s _ _ hf T2.out (by omega) I2.out (by omega) (fun j ys hj => fam_len hj)).mono ?_
        rintro e w3 ⟨rfl, q, rfl⟩
        have S3 := Lib.hid (S2.out.drewN q)
        have B3 := Lib.hid (below_drewN B2.out q)
        have I3 : Hid (Ints (w2.drewN q) (w2.drewN q).heap.size (some ⟨wr.heap.size, 0, none⟩) s (codeN s v k)) := Lib.hid (ints_drewN I2.out q)
        have hz3 : wr.heap.size < (w2.drewN q).heap.size := hg2
        have HV : Hid (∀ g, (Value.slice V n c).ownBlock = some g → w.heap.size ≤ g ∧ g < wr.heap.size) := Lib.hid (fun g e => ⟨rowBase hst.out.row g e, by
          rcases hst.out.row.2 with ⟨e1, _⟩ | ⟨g', cap', cur, e1, _, hg', _⟩
          · rw [e1] at e; cases e
          · have h1 := heapLt hg'
            rw [e1] at e
            have : g' = g := by simpa [Value.ownBlock] using e
            omega⟩)
        clear T2 S2 B2 I2 G2 hg2
        generalize w2.drewN q = w4 at S3 B3 I3 hz3 ⊢
        go_wp2_with (at_builtin; refine wpList_append_lies _ rfl _ _ 31 rfl w.heap.size 24 jj _ 1 24 Try.underlying31 HG.out.1 HG.out.2.1 HG.out.2.2.1 HG.out.2.2.2 rfl (by omega) _ n _ rfl (S3.out.row.alloc _) ⟨w4.heap.size, 0, none⟩ 1 1 [.slice (some ⟨wr.heap.size, 0, none⟩) s s] rfl rfl (World.news_of_block (cs := #[.slice (some ⟨wr.heap.size, 0, none⟩) s s]) (t := 24) (fr := (0, 0)) (heap_alloc_new w4 _)) (by simp [Value.oneCell']) (by omega) (by unfold maxLen; omega) (by omega) (by simp; omega) (w4.heap.size + 1) (by simp) ?_; intro gg cap w5 hown1 hgrow hat hlt3)
        have P5 : Hid (Stack w5 w.heap.size (.slice (some ⟨gg, 0, none⟩) (n + 1) cap) (n + 1) (vals ++ [.slice (some ⟨wr.heap.size, 0, none⟩) s s]) (famTo s v d (k + 1))) := Lib.hid (by
          rw [HF.out]
          exact S3.out.push I3.out (Nat.le_refl _) (by omega) (fun _ ad e e2 => by injection e with e; subst e; have := (HV.out _ e2).2; simp at this) hown1 hgrow (hat.imp id (fun e => by rw [e]; omega)))
        have B5 := Lib.hid ((B3.out.alloc B3.out.size (.cells #[.slice (some ⟨wr.heap.size, 0, none⟩) s s] 24)).grown hgrow (by simp; omega) (fun q e => (HV.out q e).1))
        clear hown1 hgrow hat hlt3 S3 B3 I3 HV
        go_wp2
        go_roundw
        case rel => exact ⟨k + 1, n + 1, _, _, rfl, by go_num, by omega, by rw [HF.out, List.length_append, HN.out]; rfl, by omega, P5, B5⟩
        case measure => simp [intOf]; omega
    · have HE : Hid (k = (powC v s).toNat) := Lib.hid (by omega)
      go_wp2_with (go_at_call 65; refine (l07Power_any _ _ _ v0 v1 (by omega) s1).mono ?_; rintro e w' ⟨rfl, rfl⟩)
      go_ret
      exact ⟨V, n, c, rfl, by rw [← HE.out]; exact HS1.out, hc1, hc2, by omega, hb.out⟩

end Go.Proofs.Ytpabccgndhmcdaa

namespace Go.Proofs.Ytpabccgndhmcdaa
open Go.RowKit

theorem specCountFamilies_any (s v d : Int) (w : World) :
    Calls Try.prog 21 #[.int .i64 s, .int .i64 v, .int .i64 d] w fun e w' => e = .returned (.tuple #[.int .i64 (cfV s v d), .int .i64 (cfE s v d)]) ∧ Below w.heap.size w w' := by
  rcases hs : sdB s v d with _ | _
  · rw [(cf_no hs).1, (cf_no hs).2]
    go_enter Try.func21, Try.ntmps21
    go_wp2_with (go_at_call 57; refine (l07Distance_any _ _ _ _).mono ?_; rw [hs]; rintro e w' ⟨rfl, rfl⟩)
    go_ret2
    exact ⟨rfl, Below.refl _ _⟩
  · rw [(cf_yes hs).1, (cf_yes hs).2]
    obtain ⟨s0, s1, v0, v1⟩ := sys_true (sd_true hs).1
    obtain ⟨S, rfl⟩ : ∃ S : Nat, s = (S : Int) := ⟨s.toNat, by omega⟩
    go_enter Try.func21, Try.ntmps21
    go_wp2_with (go_at_call 57; refine (l07Distance_any _ _ _ _).mono ?_; rw [hs]; rintro e w' ⟨rfl, rfl⟩)
    refine (l07Families_any S v d _ hs).mono ?_
    rintro e w1 ⟨V, n, c, rfl, hS, hc1, hc2, hn, b1⟩
    have HE : Hid ((n : Int) = ((famAll (S : Int) v d).length : Int)) := Lib.hid (by
      unfold famAll
      rw [Int.toNat_natCast, hS.len])
    clear hS
    go_wp2
    go_ret2
    exact ⟨ret_int2 HE.out rfl, b1⟩

theorem lawCountFamilies_any (s v d : Int) (w : World) :
    Calls Try.prog 9 #[.int .i64 s, .int .i64 v, .int .i64 d] w fun e w' => e = .returned (.bool true) ∧ Below w.heap.size w w' := by
  have d1 : (cfV s v d != cfV s v d) = false := by simp
  have d2 : (cfE s v d != cfE s v d) = false := by simp
  go_enter Try.func9, Try.ntmps9
  go_wp2_with fail
  refine (specCountFamilies_any s v d _).mono ?_
  rintro e w1 ⟨rfl, b1⟩
  go_wp2_with fail
  refine (countFamilies_any s v d _).mono ?_
  rintro e w2 ⟨rfl, b2⟩
  have b2' := below_trans' b1 b2
  clear b1 b2
  go_wp2
  go_ret
  exact ⟨rfl, b2'⟩

theorem fam_pos {s : Nat} {v d : Int} {n : Nat} (h : 1 ≤ n) : 0 < (famTo s v d n).length := by
  obtain ⟨r, hr⟩ := fam_pre s v d 1 n h
  have : famTo s v d 1 = [codeN s v 0] := fam_yes (k := 0) rfl
  rw [hr, this]
  simp
theorem take_min {α : Type} (l : List α) (m : Nat) : l.take (min m l.length) = l.take m := by
  by_cases h : m ≤ l.length
  · rw [Nat.min_eq_left h]
  · rw [Nat.min_eq_right (by omega), List.take_length, List.take_of_length_le (by omega)]

theorem specFamiliesOf_any (s v d m : Int) (w : World) :
    Calls Try.prog 19 #[.int .i64 s, .int .i64 v, .int .i64 d, .int .i64 m] w
      fun e w' => ∃ V n c, e = .returned (.tuple #[.slice V n c, .int .i64 (foE s v d m)]) ∧ Sets w' w'.heap.size V n (foL s v d m) ∧ n ≤ c ∧ c ≤ 9223372036854775807 ∧ Below w.heap.size w w' := by
  rcases hs : sdB s v d with _ | _
  · rw [(fo_no (m := m) (by simp [foOk, hs])).1, (fo_no (m := m) (by simp [foOk, hs])).2]
    go_enter Try.func19, Try.ntmps19
    go_wp2_with (go_at_call 57; refine (l07Distance_any _ _ _ _).mono ?_; rw [hs]; rintro e w' ⟨rfl, rfl⟩)
    go_ret2
    exact ⟨none, 0, 0, rfl, Sets.nil _, Nat.le_refl _, by omega, Below.refl _ _⟩
  rcases hm : inB m 0 60 with _ | _
  · rw [(fo_no (m := m) (by simp [foOk, hm])).1, (fo_no (m := m) (by simp [foOk, hm])).2]
    go_enter Try.func19, Try.ntmps19
    go_wp2_with (first | (go_at_call 57; refine (l07Distance_any _ _ _ _).mono ?_; rw [hs]; rintro e w' ⟨rfl, rfl⟩) | (go_at_call 63; refine (l01In_any _ _ _ _).mono ?_; rw [hm]; rintro e w' ⟨rfl, rfl⟩))
    go_ret2
    exact ⟨none, 0, 0, rfl, Sets.nil _, Nat.le_refl _, by omega, Below.refl _ _⟩
  · rw [(fo_yes (m := m) (by simp [foOk, hm, hs])).1, (fo_yes (m := m) (by simp [foOk, hm, hs])).2]
    obtain ⟨s0, s1, v0, v1⟩ := sys_true (sd_true hs).1
    obtain ⟨S, rfl⟩ : ∃ S : Nat, s = (S : Int) := ⟨s.toNat, by omega⟩
    obtain ⟨m0, m1⟩ := inB_true.1 hm
    obtain ⟨M, rfl⟩ : ∃ M : Nat, m = (M : Int) := ⟨m.toNat, by omega⟩
    have HP := Lib.hid (pow_small (k := S) v0 v1 (by omega))
    have HA : Hid (famAll (S : Int) v d = famTo S v d (powC v S).toNat) := Lib.hid (by unfold famAll; rw [Int.toNat_natCast])
    rw [HA.out, Int.toNat_natCast]
    go_enter Try.func19, Try.ntmps19
    go_wp2_with (first | (go_at_call 57; refine (l07Distance_any _ _ _ _).mono ?_; rw [hs]; rintro e w' ⟨rfl, rfl⟩) | (go_at_call 63; refine (l01In_any _ _ _ _).mono ?_; rw [hm]; rintro e w' ⟨rfl, rfl⟩))
    refine (l07Families_any S v d _ hs).mono ?_
    rintro e w1 ⟨V, n, c, rfl, hS, hc1, hc2, hn, b1⟩
    have hpos : 0 < n := by
      rw [← hS.len]
      exact fam_pos (by have := HP.out; omega)
    obtain ⟨ad, _, _, _, _, rfl, _⟩ := hS.at_ hpos
    obtain ⟨j, hj⟩ : ∃ j : Nat, j = min M n := ⟨_, rfl⟩
    have hmin : min (M : Int) (n : Int) = (j : Int) := by omega
    have hjn : j ≤ n := by omega
    have HT : Hid ((famTo S v d (powC v S).toNat).take j = (famTo S v d (powC v S).toNat).take M) := Lib.hid (by rw [hj, ← hS.len, take_min])
    have HS := Lib.hid (hS.first hjn)
    have j0 : (0 : Int) ≤ (j : Int) := by omega
    have j1 : (j : Int) ≤ (c : Int) := by omega
    clear hS hj
    go_wp2
    go_ret2
    exact ⟨_, _, _, rfl, by rw [← HT.out]; exact HS.out, by omega, hc2, b1⟩

theorem size_five {yss : List (List Int)} (h : ∀ ys ∈ yss, ys.length ≤ 5) : ∀ k, sizeAt yss k ≤ 5 * k
  | 0 => Nat.le_refl _
  | k + 1 => by
    have ih := size_five h k
    rcases hq : yss[k]? with _ | ys
    · have h1 : yss.length ≤ k := List.getElem?_eq_none_iff.1 hq
      have h2 : sizeAt yss (k + 1) = sizeAt yss k + (yss.getD k []).length := rfl
      rw [h2, List.getD_eq_getElem?_getD, hq]
      simp
      omega
    · rw [sizeAt_step hq]
      have := h ys (List.mem_of_getElem? hq)
      omega
theorem fo_size (s v d m : Int) : (foL s v d m).length + sizeL (foL s v d m) ≤ 1048576 := by
  rcases hk : foOk s v d m with _ | _
  · rw [(fo_no hk).1]; simp [sizeL, sizeAt]
  · rw [(fo_yes hk).1]
    have hk' := hk
    unfold foOk at hk'
    simp only [Bool.and_eq_true] at hk'
    obtain ⟨s0, s1, v0, v1⟩ := sys_true (sd_true hk'.1).1
    have h1 := inB_true.1 hk'.2
    have hl : ((famAll s v d).take m.toNat).length ≤ 60 := by rw [List.length_take]; omega
    have h5 : ∀ ys ∈ (famAll s v d).take m.toNat, ys.length ≤ 5 := by
      intro ys hys
      obtain ⟨i, _, rfl⟩ := fam_mem (List.mem_of_mem_take hys)
      rw [codeN_len]; omega
    have := size_five h5 ((famAll s v d).take m.toNat).length
    unfold sizeL
    omega

set_option maxHeartbeats 1000000 in
theorem lawFamiliesOf_any (s v d m : Int) (w : World) :
    Calls Try.prog 8 #[.int .i64 s, .int .i64 v, .int .i64 d, .int .i64 m] w fun e w' => e = .returned (.bool true) ∧ Below w.heap.size w w' := by
  have d1 : (foE s v d m != foE s v d m) = false := by simp
  obtain ⟨yss, hy⟩ : ∃ yss, foL s v d m = yss := ⟨_, rfl⟩
  have HN : Hid (yss.length + sizeL yss ≤ 1048576) := Lib.hid (by rw [← hy]; exact fo_size s v d m)
  have HY := Lib.hid hy
  clear hy
  go_enter Try.func8, Try.ntmps8
  go_wp2_with fail
  refine (specFamiliesOf_any s v d m _).mono ?_
  rw [HY.out]
  rintro e w1 ⟨V1, n1, c1, rfl, S1', _, _, b1⟩
  obtain ⟨n, hn⟩ : ∃ n, n = n1 := ⟨_, rfl⟩
  subst hn
  have HL := Lib.hid S1'.len
  have S1 := Lib.hid S1'
  have HM : Hid (n + sizeL yss ≤ 1048576) := Lib.hid (by rw [← HL.out]; exact HN.out)
  have hs01 := b1.size
  clear S1'
  go_wp2_with fail
  refine (familiesOf_any s v d m _).mono ?_
  rw [HY.out]
  rintro e w2 ⟨V2, n2, c2, gs2, rfl, R2, _, _, b2⟩
  obtain rfl : n = n2 := (R2.len.symm.trans HL.out).symm
  have S2 := Lib.hid ((S1.out.below b2).more b2.size)
  have T2 := Lib.hid R2
  have B2 := Lib.hid b2
  have C2 := Lib.hid (below_trans' b1 b2)
  clear R2 b1 b2
  go_wp2_with fail
  refine (eqSets_true _ _ _ _ _ yss _ T2.out.sets S2.out HM.out).mono ?_
  rintro e w3 ⟨rfl, q, rfl⟩
  have T3 := Lib.hid (T2.out.drewN q)
  have B3 := Lib.hid (below_drewN B2.out q)
  have C3 := Lib.hid (below_drewN C2.out q)
  clear T2 S2 B2 C2
  generalize w2.drewN q = w3 at T3 B3 C3 ⊢
  go_wp2_with fail
  refine (markRag_any _ n _ _ _ yss 1 _ T3.out HM.out (by omega) (by omega)).mono ?_
  rintro e w4 ⟨rfl, R4, ap4⟩
  have hap := ap4 _ T3.out.top
  have T4 := Lib.hid R4
  have B4 := Lib.hid (B3.out.trans (hap.below B3.out.size))
  have C4 := Lib.hid (C3.out.trans ((hap.below B3.out.size).mono hs01))
  clear R4 ap4 hap T3 B3 C3
  obtain ⟨ra, rb⟩ := rAt_range (k := 1) (yss := yss) (i := n) (by omega) (by omega) (by have := HN.out; omega) (by have := HL.out; omega)
  have e1 : (rAt 1 yss n != rAt 1 yss n) = false := by simp
  have e2 : ¬ rAt 1 yss n < 0 := by omega
  go_wp2_with fail
  refine (heldSets_any _ n _ yss 1 _ T4.out.sets HM.out (by omega) (by omega)).mono ?_
  rintro e w' ⟨rfl, rfl⟩
  go_wp2_with fail
  refine (familiesOf_any s v d m _).mono ?_
  rw [HY.out]
  rintro e w5 ⟨V5, n5, c5, gs5, rfl, R5, _, _, b5⟩
  obtain rfl : n = n5 := (R5.len.symm.trans HL.out).symm
  have T5 := Lib.hid (T4.out.on b5)
  have B5 := Lib.hid (B4.out.trans (b5.mono B4.out.size))
  have C5 := Lib.hid (below_trans' C4.out b5)
  have S5 := Lib.hid ((S1.out.below B5.out).more B5.out.size)
  have U5 := Lib.hid R5.sets
  clear R5 b5 T4 B4 C4
  go_wp2_with fail
  refine (eqSets_true _ _ _ _ _ yss _ U5.out S5.out HM.out).mono ?_
  rintro e w6 ⟨rfl, q6, rfl⟩
  have T6 := Lib.hid (T5.out.drewN q6)
  have C6 := Lib.hid (below_drewN C5.out q6)
  clear T5 B5 C5 S5 U5
  generalize w5.drewN q6 = w6 at T6 C6 ⊢
  go_wp2_with fail
  refine (heldSets_any _ n _ yss 1 _ T6.out.sets HM.out (by omega) (by omega)).mono ?_
  rintro e w' ⟨rfl, rfl⟩
  go_wp2
  go_ret
  exact ⟨rfl, C6.out⟩

end Go.Proofs.Ytpabccgndhmcdaa
