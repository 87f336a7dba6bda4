/- The laws of ExactBlank and CountExact. -/
import Derived.Test.YtiijkcebloefbaaExactP
import Derived.Test.YtiijkcebloefbaaExactB
namespace Go.Proofs.Ytiijkcebloefbaa
open Go.RowKit

set_option maxHeartbeats 2000000 in
theorem lawExactBlank_any (A : Option Addr) (n c : Nat) (xs : List Int) (A' : Option Addr) (n' c' : Nat) (ys : List Int) (W : World) (h : Ints W W.heap.size A n xs) (h' : Ints W W.heap.size A' n' ys) :
    Calls Try.prog 7 #[.slice A n c, .slice A' n' c'] W fun e w' => e = .returned (.bool true) ∧ Below W.heap.size W w' := by
  by_cases hn : n ≤ 1048576
  rotate_left
  · go_enter Try.func7, Try.ntmps7
    go_wp2
    go_ret
    exact ⟨rfl, Below.refl _ _⟩
  by_cases hn' : n' ≤ 1048576
  rotate_left
  · go_enter Try.func7, Try.ntmps7
    go_wp2
    go_ret
    exact ⟨rfl, Below.refl _ _⟩
  have d1 : (xbV xs ys != xbV xs ys) = false := by simp
  have d2 : (xbE xs ys != xbE xs ys) = false := by simp
  go_enter Try.func7, Try.ntmps7
  go_wp2_with fail
  refine (toInt64S_any _ _ _ xs _ h hn).mono ?_
  rintro e w1 ⟨g1, rfl, _, r1, b1⟩
  have i1 := Ints.of_row r1 h.len
  clear r1
  go_wp2_with fail
  refine (toInt64S_any _ _ _ ys _ (h'.on b1) hn').mono ?_
  rintro e w2 ⟨g2, rfl, _, r2, b2⟩
  have i2 := Ints.of_row r2 h'.len
  have i1' := i1.on b2
  have c2 := below_trans' b1 b2
  clear r2 i1 b1 b2
  go_wp2_with fail
  refine (specExactBlank_any _ _ _ xs _ _ _ ys _ i1' hn i2 hn').mono ?_
  rintro e w3 ⟨rfl, b3⟩
  have c3 := below_trans' c2 b3
  clear i1' i2 b3 c2
  go_wp2_with fail
  refine (toInt64S_any _ _ _ xs _ (h.on c3) hn).mono ?_
  rintro e w4 ⟨g4, rfl, _, r4, b4⟩
  have i4 := Ints.of_row r4 h.len
  have c4 := below_trans' c3 b4
  clear r4 b4 c3
  go_wp2_with fail
  refine (toInt64S_any _ _ _ ys _ (h'.on c4) hn').mono ?_
  rintro e w5 ⟨g5, rfl, _, r5, b5⟩
  have i5 := Ints.of_row r5 h'.len
  have j5 := i4.on b5
  have c5 := below_trans' c4 b5
  clear r5 b5 c4 i4
  go_wp2_with fail
  refine (exactBlank_any _ _ _ xs _ _ _ ys _ j5 hn i5 hn').mono ?_
  rintro e w6 ⟨rfl, b6⟩
  have i6 := i5.on b6
  have j6 := j5.on b6
  have c6 := below_trans' c5 b6
  clear b6 c5 i5 j5
  go_wp2_with fail
  refine (toInt64S_any _ _ _ xs _ (h.on c6) hn).mono ?_
  rintro e w7 ⟨g7, rfl, _, r7, b7⟩
  have k7 := Ints.of_row r7 h.len
  have i7 := i6.on b7
  have j7 := j6.on b7
  have c7 := below_trans' c6 b7
  clear r7 b7 c6 i6 j6
  go_wp2_with fail
  refine (eqInts_true _ _ _ _ _ xs _ j7 k7 hn).mono ?_
  rintro e w8 ⟨rfl, b8⟩
  have i8 := i7.on b8
  have c8 := below_trans' c7 b8
  clear b8 c7 i7 j7 k7
  go_wp2_with fail
  refine (toInt64S_any _ _ _ ys _ (h'.on c8) hn').mono ?_
  rintro e w9 ⟨g9, rfl, _, r9, b9⟩
  have k9 := Ints.of_row r9 h'.len
  have i9 := i8.on b9
  have c9 := below_trans' c8 b9
  clear r9 b9 c8 i8
  go_wp2_with fail
  refine (eqInts_true _ _ _ _ _ ys _ i9 k9 hn').mono ?_
  rintro e w10 ⟨rfl, b10⟩
  have c10 := below_trans' c9 b10
  go_wp2
  go_ret
  exact ⟨rfl, c10⟩

set_option maxHeartbeats 2000000 in
theorem lawCountExact_any (A : Option Addr) (n c : Nat) (xs : List Int) (A' : Option Addr) (n' c' : Nat) (ys : List Int) (W : World) (h : Ints W W.heap.size A n xs) (h' : Ints W W.heap.size A' n' ys) :
    Calls Try.prog 8 #[.slice A n c, .slice A' n' c'] W fun e w' => e = .returned (.bool true) ∧ Below W.heap.size W w' := by
  by_cases hn : n ≤ 1048576
  rotate_left
  · go_enter Try.func8, Try.ntmps8
    go_wp2
    go_ret
    exact ⟨rfl, Below.refl _ _⟩
  by_cases hn' : n' ≤ 1048576
  rotate_left
  · go_enter Try.func8, Try.ntmps8
    go_wp2
    go_ret
    exact ⟨rfl, Below.refl _ _⟩
  have d1 : (ceV xs ys != ceV xs ys) = false := by simp
  have d2 : (ceE xs ys != ceE xs ys) = false := by simp
  go_enter Try.func8, Try.ntmps8
  go_wp2_with fail
  refine (toInt64S_any _ _ _ xs _ h hn).mono ?_
  rintro e w1 ⟨g1, rfl, _, r1, b1⟩
  have i1 := Ints.of_row r1 h.len
  clear r1
  go_wp2_with fail
  refine (toInt64S_any _ _ _ ys _ (h'.on b1) hn').mono ?_
  rintro e w2 ⟨g2, rfl, _, r2, b2⟩
  have i2 := Ints.of_row r2 h'.len
  have i1' := i1.on b2
  have c2 := below_trans' b1 b2
  clear r2 i1 b1 b2
  go_wp2_with fail
  refine (specCountExact_any _ _ _ xs _ _ _ ys _ i1' hn i2 hn').mono ?_
  rintro e w3 ⟨rfl, b3⟩
  have c3 := below_trans' c2 b3
  clear i1' i2 b3 c2
  go_wp2_with fail
  refine (toInt64S_any _ _ _ xs _ (h.on c3) hn).mono ?_
  rintro e w4 ⟨g4, rfl, _, r4, b4⟩
  have i4 := Ints.of_row r4 h.len
  have c4 := below_trans' c3 b4
  clear r4 b4 c3
  go_wp2_with fail
  refine (toInt64S_any _ _ _ ys _ (h'.on c4) hn').mono ?_
  rintro e w5 ⟨g5, rfl, _, r5, b5⟩
  have i5 := Ints.of_row r5 h'.len
  have j5 := i4.on b5
  have c5 := below_trans' c4 b5
  clear r5 b5 c4 i4
  go_wp2_with fail
  refine (countExact_any _ _ _ xs _ _ _ ys _ j5 hn i5 hn').mono ?_
  rintro e w6 ⟨rfl, b6⟩
  have i6 := i5.on b6
  have j6 := j5.on b6
  have c6 := below_trans' c5 b6
  clear b6 c5 i5 j5
  go_wp2_with fail
  refine (toInt64S_any _ _ _ xs _ (h.on c6) hn).mono ?_
  rintro e w7 ⟨g7, rfl, _, r7, b7⟩
  have k7 := Ints.of_row r7 h.len
  have i7 := i6.on b7
  have j7 := j6.on b7
  have c7 := below_trans' c6 b7
  clear r7 b7 c6 i6 j6
  go_wp2_with fail
  refine (eqInts_true _ _ _ _ _ xs _ j7 k7 hn).mono ?_
  rintro e w8 ⟨rfl, b8⟩
  have i8 := i7.on b8
  have c8 := below_trans' c7 b8
  clear b8 c7 i7 j7 k7
  go_wp2_with fail
  refine (toInt64S_any _ _ _ ys _ (h'.on c8) hn').mono ?_
  rintro e w9 ⟨g9, rfl, _, r9, b9⟩
  have k9 := Ints.of_row r9 h'.len
  have i9 := i8.on b9
  have c9 := below_trans' c8 b9
  clear r9 b9 c8 i8
  go_wp2_with fail
  refine (eqInts_true _ _ _ _ _ ys _ i9 k9 hn').mono ?_
  rintro e w10 ⟨rfl, b10⟩
  have c10 := below_trans' c9 b10
  go_wp2
  go_ret
  exact ⟨rfl, c10⟩

end Go.Proofs.Ytiijkcebloefbaa
