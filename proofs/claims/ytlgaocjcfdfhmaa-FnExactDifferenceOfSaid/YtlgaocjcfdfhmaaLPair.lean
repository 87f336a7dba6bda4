/- The laws of DifferenceOf and DistanceOf. -/
import Derived.Test.YtlgaocjcfdfhmaaPair
import Derived.Test.YtlgaocjcfdfhmaaLFault
namespace Go.Proofs.Ytlgaocjcfdfhmaa
open Go.RowKit

set_option maxHeartbeats 1000000 in
theorem lawDifferenceOf_any (m : Mk) (A : Option Addr) (n c : Nat) (xs : List Int) (A' : Option Addr) (n' c' : Nat) (ys : List Int) (w : World) (h : Ints w w.heap.size A n xs) (h' : Ints w w.heap.size A' n' ys) :
    Calls Try.prog 8 #[.agg #[.int .i64 m.C, .int .i64 m.D, .int .i64 m.S, .int .i64 m.M, .int .i64 m.L], .slice A n c, .slice A' n' c'] w fun e w' => e = .returned (.bool true) ∧ Below w.heap.size w w' := by
  have hx0 := Boxed.new w 45 m
  have c0 := (Below.refl w.heap.size w).alloc (Nat.le_refl _) (.cells #[.int .i64 m.C, .int .i64 m.D, .int .i64 m.S, .int .i64 m.M, .int .i64 m.L] 45)
  by_cases hn : n ≤ 1048576
  · by_cases hn' : n' ≤ 1048576
    · go_enter Try.func8, Try.ntmps8
      go_wp2_with fail
      refine (toMaker_any m _).mono ?_
      rintro e w0 ⟨rfl, b1⟩
      have x0 := hx0.on b1
      have c1 := below_trans' c0 b1
      clear hx0 c0 b1
      go_wp2_with fail
      refine (toInt64S_any _ _ _ xs _ (h.on c1) hn).mono ?_
      rintro e w1 ⟨g1, rfl, _, r1, b1⟩
      have i1 := Ints.of_row r1 h.len
      have x1 := x0.on b1
      have c2 := below_trans' c1 b1
      clear r1 b1 c1 x0
      go_wp2_with fail
      refine (toInt64S_any _ _ _ ys _ (h'.on c2) hn').mono ?_
      rintro e w2 ⟨g2, rfl, _, r2, b2⟩
      have i2 := Ints.of_row r2 h'.len
      have i1' := i1.on b2
      have x2 := x1.on b2
      have c3 := below_trans' c2 b2
      clear r2 b2 c2 x1 i1
      go_wp2_with fail
      refine (specDifferenceOf_any m _ _ _ _ _ _ xs ys _ i1' hn (Nat.le_refl _) (by omega) i2 hn' (Nat.le_refl _) (by omega)).mono ?_
      rintro e w3 ⟨rfl, b3⟩
      have x3 := x2.on b3
      have c4 := below_trans' c3 b3
      clear i1' i2 b3 c3 x2
      go_wp2_with fail
      refine (toInt64S_any _ _ _ xs _ (h.on c4) hn).mono ?_
      rintro e w4 ⟨g4, rfl, _, r4, b4⟩
      have i4 := Ints.of_row r4 h.len
      have x4 := x3.on b4
      have c5 := below_trans' c4 b4
      clear r4 b4 c4 x3
      go_wp2_with fail
      refine (toInt64S_any _ _ _ ys _ (h'.on c5) hn').mono ?_
      rintro e w5 ⟨g5, rfl, _, r5, b5⟩
      have j5 := Ints.of_row r5 h'.len
      have i5 := i4.on b5
      have x5 := x4.on b5
      have c6 := below_trans' c5 b5
      clear r5 b5 c5 x4 i4
      obtain ⟨q0, q1, q2, q3, q4⟩ := x5.cells
      go_wp2_with fail
      clear q0 q1 q2 q3 q4
      refine (toMaker_any m _).mono ?_
      rintro e w6 ⟨rfl, b6⟩
      have i6 := i5.on b6
      have j6 := j5.on b6
      have c7 := below_trans' c6 b6
      clear b6 c6 x5 i5 j5
      go_wp2_with fail
      refine (differenceOf_any m _ _ _ _ _ _ xs ys _ i6 hn j6 hn').mono ?_
      rintro e w7 ⟨rfl, b7⟩
      have i7 := i6.on b7
      have j7 := j6.on b7
      have c8 := below_trans' c7 b7
      clear b7 c7 i6 j6
      have d1 : (dfV m xs ys != dfV m xs ys) = false := by simp
      have d2 : (codeF m [xs, ys] != codeF m [xs, ys]) = false := by simp
      go_wp2_with fail
      refine (toInt64S_any _ _ _ xs _ (h.on c8) hn).mono ?_
      rintro e w8 ⟨g8, rfl, _, r8, b8⟩
      have k8 := Ints.of_row r8 h.len
      have i8 := i7.on b8
      have j8 := j7.on b8
      have c9 := below_trans' c8 b8
      clear r8 b8 c8 i7 j7
      go_wp2_with fail
      refine (eqInts_true _ _ _ _ _ xs _ i8 k8 hn).mono ?_
      rintro e w9 ⟨rfl, b9⟩
      have j9 := j8.on b9
      have c10 := below_trans' c9 b9
      clear b9 c9 i8 j8 k8
      go_wp2_with fail
      refine (toInt64S_any _ _ _ ys _ (h'.on c10) hn').mono ?_
      rintro e w10 ⟨g10, rfl, _, r10, b10⟩
      have k10 := Ints.of_row r10 h'.len
      have j10 := j9.on b10
      have c11 := below_trans' c10 b10
      clear r10 b10 c10 j9
      go_wp2_with fail
      refine (eqInts_true _ _ _ _ _ ys _ j10 k10 hn').mono ?_
      rintro e w11 ⟨rfl, b11⟩
      have c12 := below_trans' c11 b11
      go_wp2
      go_ret
      exact ⟨rfl, c12⟩
    · go_enter Try.func8, Try.ntmps8
      go_wp2
      go_ret
      exact ⟨rfl, c0⟩
  · go_enter Try.func8, Try.ntmps8
    go_wp2
    go_ret
    exact ⟨rfl, c0⟩

set_option maxHeartbeats 1000000 in
theorem lawDistanceOf_any (m : Mk) (A : Option Addr) (n c : Nat) (xs : List Int) (A' : Option Addr) (n' c' : Nat) (ys : List Int) (w : World) (h : Ints w w.heap.size A n xs) (h' : Ints w w.heap.size A' n' ys) :
    Calls Try.prog 9 #[.agg #[.int .i64 m.C, .int .i64 m.D, .int .i64 m.S, .int .i64 m.M, .int .i64 m.L], .slice A n c, .slice A' n' c'] w fun e w' => e = .returned (.bool true) ∧ Below w.heap.size w w' := by
  have hx0 := Boxed.new w 45 m
  have c0 := (Below.refl w.heap.size w).alloc (Nat.le_refl _) (.cells #[.int .i64 m.C, .int .i64 m.D, .int .i64 m.S, .int .i64 m.M, .int .i64 m.L] 45)
  by_cases hn : n ≤ 1048576
  · by_cases hn' : n' ≤ 1048576
    · go_enter Try.func9, Try.ntmps9
      go_wp2_with fail
      refine (toMaker_any m _).mono ?_
      rintro e w0 ⟨rfl, b1⟩
      have x0 := hx0.on b1
      have c1 := below_trans' c0 b1
      clear hx0 c0 b1
      go_wp2_with fail
      refine (toInt64S_any _ _ _ xs _ (h.on c1) hn).mono ?_
      rintro e w1 ⟨g1, rfl, _, r1, b1⟩
      have i1 := Ints.of_row r1 h.len
      have x1 := x0.on b1
      have c2 := below_trans' c1 b1
      clear r1 b1 c1 x0
      go_wp2_with fail
      refine (toInt64S_any _ _ _ ys _ (h'.on c2) hn').mono ?_
      rintro e w2 ⟨g2, rfl, _, r2, b2⟩
      have i2 := Ints.of_row r2 h'.len
      have i1' := i1.on b2
      have x2 := x1.on b2
      have c3 := below_trans' c2 b2
      clear r2 b2 c2 x1 i1
      go_wp2_with fail
      refine (specDistanceOf_any m _ _ _ _ _ _ xs ys _ i1' hn (Nat.le_refl _) (by omega) i2 hn' (Nat.le_refl _) (by omega)).mono ?_
      rintro e w3 ⟨rfl, b3⟩
      have x3 := x2.on b3
      have c4 := below_trans' c3 b3
      clear i1' i2 b3 c3 x2
      go_wp2_with fail
      refine (toInt64S_any _ _ _ xs _ (h.on c4) hn).mono ?_
      rintro e w4 ⟨g4, rfl, _, r4, b4⟩
      have i4 := Ints.of_row r4 h.len
      have x4 := x3.on b4
      have c5 := below_trans' c4 b4
      clear r4 b4 c4 x3
      go_wp2_with fail
      refine (toInt64S_any _ _ _ ys _ (h'.on c5) hn').mono ?_
      rintro e w5 ⟨g5, rfl, _, r5, b5⟩
      have j5 := Ints.of_row r5 h'.len
      have i5 := i4.on b5
      have x5 := x4.on b5
      have c6 := below_trans' c5 b5
      clear r5 b5 c5 x4 i4
      obtain ⟨q0, q1, q2, q3, q4⟩ := x5.cells
      go_wp2_with fail
      clear q0 q1 q2 q3 q4
      refine (toMaker_any m _).mono ?_
      rintro e w6 ⟨rfl, b6⟩
      have i6 := i5.on b6
      have j6 := j5.on b6
      have c7 := below_trans' c6 b6
      clear b6 c6 x5 i5 j5
      go_wp2_with fail
      refine (distanceOf_any m _ _ _ _ _ _ xs ys _ i6 hn j6 hn').mono ?_
      rintro e w7 ⟨rfl, b7⟩
      have i7 := i6.on b7
      have j7 := j6.on b7
      have c8 := below_trans' c7 b7
      clear b7 c7 i6 j6
      have d1 : (dsV m xs ys != dsV m xs ys) = false := by simp
      have d2 : (codeF m [xs, ys] != codeF m [xs, ys]) = false := by simp
      go_wp2_with fail
      refine (toInt64S_any _ _ _ xs _ (h.on c8) hn).mono ?_
      rintro e w8 ⟨g8, rfl, _, r8, b8⟩
      have k8 := Ints.of_row r8 h.len
      have i8 := i7.on b8
      have j8 := j7.on b8
      have c9 := below_trans' c8 b8
      clear r8 b8 c8 i7 j7
      go_wp2_with fail
      refine (eqInts_true _ _ _ _ _ xs _ i8 k8 hn).mono ?_
      rintro e w9 ⟨rfl, b9⟩
      have j9 := j8.on b9
      have c10 := below_trans' c9 b9
      clear b9 c9 i8 j8 k8
      go_wp2_with fail
      refine (toInt64S_any _ _ _ ys _ (h'.on c10) hn').mono ?_
      rintro e w10 ⟨g10, rfl, _, r10, b10⟩
      have k10 := Ints.of_row r10 h'.len
      have j10 := j9.on b10
      have c11 := below_trans' c10 b10
      clear r10 b10 c10 j9
      go_wp2_with fail
      refine (eqInts_true _ _ _ _ _ ys _ j10 k10 hn').mono ?_
      rintro e w11 ⟨rfl, b11⟩
      have c12 := below_trans' c11 b11
      go_wp2
      go_ret
      exact ⟨rfl, c12⟩
    · go_enter Try.func9, Try.ntmps9
      go_wp2
      go_ret
      exact ⟨rfl, c0⟩
  · go_enter Try.func9, Try.ntmps9
    go_wp2
    go_ret
    exact ⟨rfl, c0⟩

end Go.Proofs.Ytlgaocjcfdfhmaa
