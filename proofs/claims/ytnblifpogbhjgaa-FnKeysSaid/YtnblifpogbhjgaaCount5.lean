/- CountKeys of the program, and the law. -/
import Derived.Test.YtnblifpogbhjgaaCount4
import Derived.Test.YtnblifpogbhjgaaSCount
namespace Go.Proofs.Ytnblifpogbhjgaa
open Go.RowKit

/-- the table behind k rounds -/
def Rounds (m : Mk) (k : Nat) (F : Nat → Int) : Prop :=
  NonNeg F ∧ totS F one3 m.M.toNat m.D.toNat ≤ (8 ^ (k + 1) : Nat) ∧ ∀ W, totS F W m.M.toNat m.D.toNat = sumN m.D.toNat (fun c => nW m k W c 1 (1 <<< c))
theorem sumN_ones : ∀ n : Nat, sumN n (fun c => one3 c 1 (1 <<< c)) = n
  | 0 => rfl
  | n + 1 => by
    show sumN n _ + one3 n 1 _ = _
    rw [sumN_ones n]
    show (n : Int) + 1 = ((n + 1 : Nat) : Int)
    omega
theorem rounds_zero {m : Mk} {F : Nat → Int} (hD : m.D ≤ 8) (h : NonNeg F) (hs : ∀ W, totS F W m.M.toNat m.D.toNat = sumN m.D.toNat (fun c => W c 1 (1 <<< c))) : Rounds m 0 F := by
  refine ⟨h, ?_, hs⟩
  rw [hs one3, sumN_ones]
  show (m.D.toNat : Int) ≤ 8
  omega
theorem rounds_next {m : Mk} {k : Nat} {F F' : Nat → Int} (hD : m.D ≤ 8) (h : Rounds m k F) (h' : NonNeg F') (hs : ∀ W, totS F' W m.M.toNat m.D.toNat = totS F (nextW m W) m.M.toNat m.D.toNat) : Rounds m (k + 1) F' := by
  refine ⟨h', ?_, fun W => ?_⟩
  · rw [hs one3]
    have h1 := tot_next (m := m) h.1 hD
    have h2 := h.2.1
    have h3 : (8 ^ (k + 1 + 1) : Nat) = 8 ^ (k + 1) * 8 := Nat.pow_succ ..
    rw [h3]
    generalize 8 ^ (k + 1) = z at *
    omega
  · rw [hs W, h.2.2 (nextW m W)]
    rfl
theorem rounds_bound {m : Mk} {k : Nat} {F : Nat → Int} (h : Rounds m k F) (hk : k ≤ 5) : totS F one3 m.M.toNat m.D.toNat ≤ 300000 := by
  have := h.2.1
  have h2 := pow8 (k := k + 1) (by omega)
  generalize 8 ^ (k + 1) = z at *
  omega
theorem rounds_bound4 {m : Mk} {k : Nat} {F : Nat → Int} (h : Rounds m k F) (hk : k ≤ 4) : totS F one3 m.M.toNat m.D.toNat ≤ 100000 := by
  have := h.2.1
  have h2 : 8 ^ (k + 1) ≤ 32768 := by
    have := Nat.pow_le_pow_right (n := 8) (by decide) (show k + 1 ≤ 5 by omega)
    simpa using this
  generalize 8 ^ (k + 1) = z at *
  omega
theorem rounds_end {m : Mk} (hm : m.ok = true) {k : Nat} {F : Nat → Int} (h : Rounds m k F) (hk : k = m.C.toNat - 1) : totS F (leastW m) m.M.toNat m.D.toNat = cntV m := by
  rw [(cnt_yes hm).1, count_all hm, h.2.2 (leastW m), hk]

set_option maxRecDepth 100000 in
set_option maxHeartbeats 8000000 in
theorem countKeys_any (m : Mk) (w : World) :
    Calls Try.prog 17 #[.agg #[.int .i64 m.C, .int .i64 m.D, .int .i64 m.S, .int .i64 m.M, .int .i64 m.L]] w fun e w' => e = .returned (.tuple #[.int .i64 (cntV m), .int .i64 (cntE m)]) ∧ Below w.heap.size w w' := by
  have b0 := (Below.refl w.heap.size w).alloc (Nat.le_refl _) (.cells #[.int .i64 m.C, .int .i64 m.D, .int .i64 m.S, .int .i64 m.M, .int .i64 m.L] 25)
  have hx := Boxed.new w 25 m
  rcases hm : m.ok with _ | _
  · obtain ⟨e1, e2⟩ := cnt_bad hm
    rw [e1, e2]; clear e1 e2
    go_enter Try.func17, Try.ntmps17
    go_wp2_with fail
    refine (isMaker_any m _).mono ?_
    rw [hm]
    rintro e w1 ⟨rfl, b1⟩
    have c1 := below_trans' b0 b1
    go_wp2
    go_ret2
    exact ⟨rfl, c1⟩
  rw [(cnt_yes hm).2]
  have HM := Lib.hid hm
  obtain ⟨m1, m2, m3, m4, m5, m6, m7, m8, m9, m10, m11⟩ := Mk.ok_true hm
  clear hm
  go_enter Try.func17, Try.ntmps17
  go_wp2_with fail
  refine (isMaker_any m _).mono ?_
  rw [HM.out]
  rintro e w1 ⟨rfl, b1⟩
  have x1 := hx.on b1
  have c1 := below_trans' b0 b1
  obtain ⟨q0, q1, q2, q3, q4⟩ := x1.cells
  clear hx b0 b1
  go_wp2_with fail
  refine (countSingle_any m _ HM.out).mono ?_
  rintro e w2 ⟨g, F, rfl, hg, htab, hnn, hsum, b2⟩
  have HX2 := Lib.hid (x1.on b2)
  have C2 := Lib.hid (below_trans' c1 b2)
  have hwg := c1.size
  have HR2 := Lib.hid (rounds_zero m4 hnn hsum)
  have HT2 := Lib.hid htab
  clear q0 q1 q2 q3 q4 x1 c1 b2 htab hnn hsum
  obtain ⟨q0, q1, q2, q3, q4⟩ := HX2.out.cells
  go_wp2
  clear q0 q1 q2 q3 q4
  go_loopw [4, 13] (fun p z wr => ∃ (k g : Nat) (F : Nat → Int), p = .pointer (some ⟨g, 0, none⟩) ∧ z = .int .i64 (k : Int) ∧ (k : Int) ≤ m.C - 1 ∧ Hid (Table wr g F) ∧ Hid (Rounds m k F) ∧ Hid (Boxed wr w.heap.size 25 m) ∧ Below w.heap.size w wr) (fun _ z _ => 9 - (intOf z).toNat)
  case atStart => exact ⟨0, g, F, rfl, rfl, by omega, HT2, HR2, HX2, C2.out⟩
  case round =>
    clear HT2 HR2 HX2 C2
    obtain ⟨k, g1, F1, rfl, rfl, hk, HT, HR, HX, hb⟩ := hrel
    obtain ⟨q0, q1, q2, q3, q4⟩ := HX.out.cells
    have HB := Lib.hid hb
    have hwb := hb.size
    clear hb
    by_cases hlt : (k : Int) < m.C - 1
    · go_wp2_with fail
      clear q0 q1 q2 q3 q4
      refine (countLonger_any m HM.out g1 F1 _ HT.out HR.out.1 (rounds_bound4 HR.out (by omega))).mono ?_
      rintro e w3 ⟨g2, F2, rfl, hg2, htab, hnn, hsum, b3⟩
      have HT3 := Lib.hid htab
      have HR3 := Lib.hid (rounds_next m4 HR.out hnn hsum)
      have HX3 := Lib.hid (HX.out.on b3)
      have HB3 := Lib.hid (below_trans' HB.out b3)
      clear HT HR HX HB b3 htab hnn hsum
      go_wp2
      go_roundw
      case rel => exact ⟨k + 1, g2, F2, rfl, by go_num, by omega, HT3, HR3, HX3, HB3.out⟩
      case measure => simp [intOf]; omega
    · have HE := Lib.hid (rounds_end HM.out HR.out (by omega))
      go_wp2_with fail
      clear q0 q1 q2 q3 q4
      refine (countWithLeast_any m HM.out g1 F1 _ HT.out HR.out.1 (rounds_bound HR.out (by omega))).mono ?_
      rw [HE.out]
      rintro e w3 ⟨rfl, b3⟩
      have HB3 := Lib.hid (below_trans' HB.out b3)
      clear HT HR HX HB b3 HE
      go_wp2
      go_ret2
      exact ⟨rfl, HB3.out⟩

theorem lawCountKeys_any (m : Mk) (w : World) :
    Calls Try.prog 9 #[.agg #[.int .i64 m.C, .int .i64 m.D, .int .i64 m.S, .int .i64 m.M, .int .i64 m.L]] w fun e w' => e = .returned (.bool true) ∧ Below w.heap.size w w' := by
  have hx := Boxed.new w 50 m
  have b0 := (Below.refl w.heap.size w).alloc (Nat.le_refl _) (.cells #[.int .i64 m.C, .int .i64 m.D, .int .i64 m.S, .int .i64 m.M, .int .i64 m.L] 50)
  go_enter Try.func9, Try.ntmps9
  go_wp2_with fail
  refine (toMaker_any m _).mono ?_
  rintro e w1 ⟨rfl, b1⟩
  have x1 := hx.on b1
  have c1 := below_trans' b0 b1
  clear hx b0 b1
  go_wp2_with fail
  refine (specCountKeys_any m _).mono ?_
  rintro e w2 ⟨rfl, b2⟩
  have x2 := x1.on b2
  have c2 := below_trans' c1 b2
  clear x1 c1 b2
  obtain ⟨q0, q1, q2, q3, q4⟩ := x2.cells
  go_wp2_with fail
  clear q0 q1 q2 q3 q4
  refine (toMaker_any m _).mono ?_
  rintro e w3 ⟨rfl, b3⟩
  have c3 := below_trans' c2 b3
  clear c2 b3 x2
  go_wp2_with fail
  refine (countKeys_any m _).mono ?_
  rintro e w4 ⟨rfl, b4⟩
  have c4 := below_trans' c3 b4
  have hq : (cntV m != cntV m) = false := by simp
  have hq2 : (cntE m != cntE m) = false := by simp
  go_wp2
  go_ret
  exact ⟨rfl, c4⟩

end Go.Proofs.Ytnblifpogbhjgaa
