/- The laws of IsSideCode, CountSideCodes, FamilyBound and SideDistance. -/
import Derived.Test.YtpabccgndhmcdaaSideN
namespace Go.Proofs.Ytpabccgndhmcdaa
open Go.RowKit

theorem lawIsSideCode_any (s v : Int) (A : Option Addr) (n c : Nat) (xs : List Int) (w : World) (h : Ints w w.heap.size A n xs) :
    Calls Try.prog 5 #[.int .i64 s, .int .i64 v, .slice A n c] w fun e w' => e = .returned (.bool true) ∧ Below w.heap.size w w' := by
  by_cases hn : n ≤ 1048576
  · have d1 : (iscB s v xs != iscB s v xs) = false := by simp
    go_enter Try.func5, Try.ntmps5
    go_wp2_with fail
    refine (toInt64S_any _ _ _ xs _ h hn).mono ?_
    rintro e w1 ⟨g1, rfl, _, r1, b1⟩
    have i1 := Ints.of_row r1 h.len
    have h1 := h.on b1
    clear r1
    go_wp2_with fail
    refine (specIsSideCode_any s v _ _ _ xs _ i1 hn).mono ?_
    rintro e w' ⟨rfl, rfl⟩
    go_wp2_with fail
    refine (toInt64S_any _ _ _ xs _ h1 hn).mono ?_
    rintro e w2 ⟨g2, rfl, _, r2, b2⟩
    have i2 := Ints.of_row r2 h.len
    have h2 := h1.on b2
    have b2' := below_trans' b1 b2
    clear r2 i1 b1 b2 h1
    go_wp2_with fail
    refine (isSideCode_any s v _ _ _ xs _ i2 (Nat.le_refl _) (by omega)).mono ?_
    rintro e w3 ⟨rfl, b3⟩
    have i3 := i2.on b3
    have h3 := h2.on b3
    have b3' := below_trans' b2' b3
    clear i2 h2 b2' b3
    go_wp2_with fail
    refine (toInt64S_any _ _ _ xs _ h3 hn).mono ?_
    rintro e w4 ⟨g4, rfl, _, r4, b4⟩
    have i4 := Ints.of_row r4 h.len
    have i4' := i3.on b4
    have b4' := below_trans' b3' b4
    clear r4 b4 i3 h3 b3'
    go_wp2_with fail
    refine (eqInts_true _ _ _ _ _ xs _ i4' i4 hn).mono ?_
    rintro e w5 ⟨rfl, b5⟩
    have b5' := below_trans' b4' b5
    go_wp2
    go_ret
    exact ⟨rfl, b5'⟩
  · go_enter Try.func5, Try.ntmps5
    go_wp2
    go_ret
    exact ⟨rfl, Below.refl _ _⟩

theorem lawCountSideCodes_any (s v : Int) (w : World) :
    Calls Try.prog 6 #[.int .i64 s, .int .i64 v] w fun e w' => e = .returned (.bool true) ∧ Below w.heap.size w w' := by
  have d1 : (csV s v != csV s v) = false := by simp
  have d2 : (csE s v != csE s v) = false := by simp
  go_enter Try.func6, Try.ntmps6
  go_wp2_with (go_at_call 33; refine (specCountSideCodes_any _ _ _).mono ?_; rintro e w' ⟨rfl, rfl⟩)
  refine (countSideCodes_any s v _).mono ?_
  rintro e w1 ⟨rfl, b1⟩
  go_wp2
  go_ret
  exact ⟨rfl, b1⟩

theorem lawFamilyBound_any (s v d : Int) (w : World) :
    Calls Try.prog 11 #[.int .i64 s, .int .i64 v, .int .i64 d] w fun e w' => e = .returned (.bool true) ∧ Below w.heap.size w w' := by
  have d1 : (fbV s v d != fbV s v d) = false := by simp
  have d2 : (fbE s v d != fbE s v d) = false := by simp
  go_enter Try.func11, Try.ntmps11
  go_wp2_with (go_at_call 23; refine (specFamilyBound_any _ _ _ _).mono ?_; rintro e w' ⟨rfl, rfl⟩)
  refine (familyBound_any s v d _).mono ?_
  rintro e w1 ⟨rfl, b1⟩
  go_wp2
  go_ret
  exact ⟨rfl, b1⟩

set_option maxHeartbeats 1000000 in
theorem lawSideDistance_any (s v : Int) (A : Option Addr) (n c : Nat) (xs : List Int) (A' : Option Addr) (n' c' : Nat) (ys : List Int) (w : World) (h : Ints w w.heap.size A n xs) (h' : Ints w w.heap.size A' n' ys) :
    Calls Try.prog 7 #[.int .i64 s, .int .i64 v, .slice A n c, .slice A' n' c'] w fun e w' => e = .returned (.bool true) ∧ Below w.heap.size w w' := by
  by_cases hn : ¬ n ≤ 1048576
  · go_enter Try.func7, Try.ntmps7
    go_wp2
    go_ret
    exact ⟨rfl, Below.refl _ _⟩
  have hn := Decidable.not_not.1 hn
  by_cases hn' : ¬ n' ≤ 1048576
  · go_enter Try.func7, Try.ntmps7
    go_wp2
    go_ret
    exact ⟨rfl, Below.refl _ _⟩
  have hn' := Decidable.not_not.1 hn'
  have d1 : (sdV s v xs ys != sdV s v xs ys) = false := by simp
  have d2 : (sdE s v xs ys != sdE s v xs ys) = false := by simp
  have HL := Lib.hid h.len
  have HL' := Lib.hid h'.len
  go_enter Try.func7, Try.ntmps7
  go_wp2_with fail
  refine (toInt64S_any _ _ _ xs _ h hn).mono ?_
  rintro e w1 ⟨g1, rfl, _, r1, b1⟩
  have i1 := Ints.of_row r1 HL.out
  have h1 := h.on b1
  have h1' := h'.on b1
  clear r1 h h'
  go_wp2_with fail
  refine (toInt64S_any _ _ _ ys _ h1' hn').mono ?_
  rintro e w2 ⟨g2, rfl, _, r2, b2⟩
  have j2 := Ints.of_row r2 HL'.out
  have i2 := i1.on b2
  have h2 := h1.on b2
  have h2' := h1'.on b2
  have b2' := below_trans' b1 b2
  clear r2 i1 h1 h1' b1 b2
  go_wp2_with fail
  refine (specSideDistance_any s v _ _ _ _ _ _ xs ys _ i2 hn j2 hn').mono ?_
  rintro e w3 ⟨rfl, q, rfl⟩
  have h3 : Ints (w2.drewN q) (w2.drewN q).heap.size A n xs := ints_drewN h2 q
  have h3' : Ints (w2.drewN q) (w2.drewN q).heap.size A' n' ys := ints_drewN h2' q
  have b3 := below_drewN b2' q
  clear i2 j2 h2 h2' b2'
  generalize w2.drewN q = w3 at h3 h3' b3 ⊢
  go_wp2_with fail
  refine (toInt64S_any _ _ _ xs _ h3 hn).mono ?_
  rintro e w4 ⟨g4, rfl, _, r4, b4⟩
  have i4 := Ints.of_row r4 HL.out
  have h4 := h3.on b4
  have h4' := h3'.on b4
  have b4' := below_trans' b3 b4
  clear r4 h3 h3' b3 b4
  go_wp2_with fail
  refine (toInt64S_any _ _ _ ys _ h4' hn').mono ?_
  rintro e w5 ⟨g5, rfl, _, r5, b5⟩
  have j5 := Ints.of_row r5 HL'.out
  have i5 := i4.on b5
  have h5 := h4.on b5
  have h5' := h4'.on b5
  have b5' := below_trans' b4' b5
  clear r5 i4 h4 h4' b4' b5
  go_wp2_with fail
  refine (sideDistance_any s v _ _ _ _ _ _ xs ys _ i5 hn (Nat.le_refl _) (by omega) j5 (Nat.le_refl _) (by omega)).mono ?_
  rintro e w6 ⟨rfl, b6⟩
  have i6 := i5.on b6
  have j6 := j5.on b6
  have h6 := h5.on b6
  have h6' := h5'.on b6
  have b6' := below_trans' b5' b6
  clear i5 j5 h5 h5' b5' b6
  go_wp2_with fail
  refine (toInt64S_any _ _ _ xs _ h6 hn).mono ?_
  rintro e w7 ⟨g7, rfl, _, r7, b7⟩
  have k7 := Ints.of_row r7 HL.out
  have i7 := i6.on b7
  have j7 := j6.on b7
  have h7' := h6'.on b7
  have b7' := below_trans' b6' b7
  clear r7 i6 j6 h6 h6' b6' b7
  go_wp2_with fail
  refine (eqInts_true _ _ _ _ _ xs _ i7 k7 hn).mono ?_
  rintro e w8 ⟨rfl, b8⟩
  have j8 := j7.on b8
  have h8' := h7'.on b8
  have b8' := below_trans' b7' b8
  clear k7 i7 j7 h7' b7' b8
  go_wp2_with fail
  refine (toInt64S_any _ _ _ ys _ h8' hn').mono ?_
  rintro e w9 ⟨g9, rfl, _, r9, b9⟩
  have k9 := Ints.of_row r9 HL'.out
  have j9 := j8.on b9
  have b9' := below_trans' b8' b9
  clear r9 j8 h8' b8' b9
  go_wp2_with fail
  refine (eqInts_true _ _ _ _ _ ys _ j9 k9 hn').mono ?_
  rintro e wa ⟨rfl, ba⟩
  have ba' := below_trans' b9' ba
  go_wp2
  go_ret
  exact ⟨rfl, ba'⟩

end Go.Proofs.Ytpabccgndhmcdaa
