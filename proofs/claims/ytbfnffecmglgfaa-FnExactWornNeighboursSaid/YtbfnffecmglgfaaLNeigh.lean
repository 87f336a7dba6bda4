/- The law of WornNeighbours. -/
import Derived.Test.YtbfnffecmglgfaaNeigh
namespace Go.Proofs.Ytbfnffecmglgfaa
open Go.RowKit

theorem lawWornNeighbours_any (m : Mk) (A : Option Addr) (n c : Nat) (xs : List Int) (wr t : Int) (w : World) (h : Ints w w.heap.size A n xs) :
    Calls Try.prog 17 #[.agg #[.int .i64 m.C, .int .i64 m.D, .int .i64 m.S, .int .i64 m.M, .int .i64 m.L], .slice A n c, .int .i64 wr, .int .i64 t] w fun e w' => e = .returned (.bool true) ∧ Below w.heap.size w w' := by
  have hx0 := Boxed.new w 77 m
  have c0 := (Below.refl w.heap.size w).alloc (Nat.le_refl _) (.cells #[.int .i64 m.C, .int .i64 m.D, .int .i64 m.S, .int .i64 m.M, .int .i64 m.L] 77)
  by_cases hn : n ≤ 1048576
  · go_enter Try.func17, Try.ntmps17
    go_wp2_with fail
    refine (toMaker_any m _).mono ?_
    rintro e w1 ⟨rfl, b1⟩
    have x1 := hx0.on b1
    have c1 := below_trans' c0 b1
    clear hx0 c0 b1
    go_wp2_with fail
    refine (toInt64S_any _ _ _ xs _ (h.on c1) hn).mono ?_
    rintro e w2 ⟨g2, rfl, _, r2, b2⟩
    have i2 := Ints.of_row r2 h.len
    have x2 := x1.on b2
    have c2 := below_trans' c1 b2
    clear r2 b2 c1 x1
    go_wp2_with fail
    refine (specWornNeighbours_any m _ _ _ xs wr t _ i2 hn (Nat.le_refl _) (by omega)).mono ?_
    rintro e w3 ⟨rfl, b3⟩
    have x3 := x2.on b3
    have c3 := below_trans' c2 b3
    clear i2 b3 c2 x2
    go_wp2_with fail
    refine (toInt64S_any _ _ _ xs _ (h.on c3) hn).mono ?_
    rintro e w4 ⟨g4, rfl, _, r4, b4⟩
    have i4 := Ints.of_row r4 h.len
    have x4 := x3.on b4
    have c4 := below_trans' c3 b4
    clear r4 b4 c3 x3
    obtain ⟨q0, q1, q2, q3, q4⟩ := x4.cells
    clear x4
    go_wp2_with fail
    clear q0 q1 q2 q3 q4
    refine (toMaker_any m _).mono ?_
    rintro e w5 ⟨rfl, b5⟩
    have i5 := i4.on b5
    have c5 := below_trans' c4 b5
    clear i4 b5 c4
    go_wp2_with fail
    refine (wornNeighbours_any m _ _ _ xs wr t _ i5 hn).mono ?_
    rintro e w6 ⟨rfl, b6⟩
    have i6 := i5.on b6
    have c6 := below_trans' c5 b6
    clear i5 b6 c5
    have d1 : (wnV m xs wr t != wnV m xs wr t) = false := by simp
    have d2 : (wnE m xs wr t != wnE m xs wr t) = false := by simp
    go_wp2_with fail
    refine (toInt64S_any _ _ _ xs _ (h.on c6) hn).mono ?_
    rintro e w7 ⟨g7, rfl, _, r7, b7⟩
    have i7 := Ints.of_row r7 h.len
    have j7 := i6.on b7
    have c7 := below_trans' c6 b7
    clear r7 b7 c6 i6
    go_wp2_with fail
    refine (eqInts_true _ _ _ _ _ xs _ j7 i7 hn).mono ?_
    rintro e w8 ⟨rfl, b8⟩
    have c8 := below_trans' c7 b8
    go_wp2
    go_ret
    exact ⟨rfl, c8⟩
  · go_enter Try.func17, Try.ntmps17
    go_wp2
    go_ret
    exact ⟨rfl, c0⟩

end Go.Proofs.Ytbfnffecmglgfaa
