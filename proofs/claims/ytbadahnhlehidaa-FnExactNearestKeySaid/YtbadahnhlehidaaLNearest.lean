/- The law of NearestKey. -/
import Derived.Test.YtbadahnhlehidaaSNearest
import Derived.Test.YtbadahnhlehidaaLNext
namespace Go.Proofs.Ytbadahnhlehidaa
open Go.RowKit

set_option maxHeartbeats 1000000 in
theorem lawNearestKey_any (m : Mk) (A : Option Addr) (n c : Nat) (xs : List Int) (w : World) (h : Ints w w.heap.size A n xs) :
    Calls Try.prog 18 #[.agg #[.int .i64 m.C, .int .i64 m.D, .int .i64 m.S, .int .i64 m.M, .int .i64 m.L], .slice A n c] w fun e w' => e = .returned (.bool true) ∧ Below w.heap.size w w' := by
  have hx0 := Boxed.new w 23 m
  have c0 := (Below.refl w.heap.size w).alloc (Nat.le_refl _) (.cells #[.int .i64 m.C, .int .i64 m.D, .int .i64 m.S, .int .i64 m.M, .int .i64 m.L] 23)
  by_cases hn : n ≤ 1048576
  · go_enter Try.func18, Try.ntmps18
    go_wp2_with fail
    refine (toMaker_any m _).mono ?_
    rintro e w0 ⟨rfl, b1⟩
    have x0 := hx0.on b1
    have c0' := below_trans' c0 b1
    clear hx0 c0 b1
    go_wp2_with fail
    refine (toInt64S_any _ _ _ xs _ (h.on c0') hn).mono ?_
    rintro e w1 ⟨g1, rfl, _, r1, b1⟩
    have i1 := Ints.of_row r1 h.len
    have x1 := x0.on b1
    have c1 := below_trans' c0' b1
    clear r1 b1 c0' x0
    go_wp2_with fail
    refine (specNearestKey_any m _ _ _ xs _ i1 hn (Nat.le_refl _) (by omega)).mono ?_
    rintro e w2 ⟨Aw, nw, cw, rfl, ow2, hnw, _, _, b2⟩
    have x2 := x1.on b2
    have c2 := below_trans' c1 b2
    have l2 := x2.lt
    clear i1 c1 b2 x1
    go_wp2_with fail
    refine (toInt64S_any _ _ _ xs _ (h.on c2) hn).mono ?_
    rintro e w3 ⟨g3, rfl, hg3, r3, b3⟩
    have ox3 := Own.of_row r3 h.len hg3
    have ow3 := ow2.below b3
    have x3 := x2.on b3
    have c3 := below_trans' c2 b3
    have s3 := b3.size
    clear r3 c2 b3 x2
    obtain ⟨q0, q1, q2, q3, q4⟩ := x3.cells
    go_wp2_with fail
    clear q0 q1 q2 q3 q4
    refine (toMaker_any m _).mono ?_
    rintro e w4 ⟨rfl, b4⟩
    have ox4 := ox3.below b4
    have ow4 := ow3.below b4
    have x4 := x3.on b4
    have c4 := below_trans' c3 b4
    have s4 := b4.size
    have l4 := x4.lt
    clear b4 c3 x3 ox3 ow3
    go_wp2_with fail
    refine (nearestKey_any m _ _ _ xs _ ox4.ints hn).mono ?_
    rintro e w5 ⟨Ag, ng, cg, rfl, og5, hng, _, _, b5⟩
    obtain rfl : nw = ng := by rw [← ow2.len, ← og5.len]
    have ox5 := ox4.below b5
    have ow5 := ow4.below b5
    have x5 := x4.on b5
    have c5 := below_trans' c4 b5
    clear b5 c4 x4 ox4 ow4 ow2
    have d2 : (ktE m xs != ktE m xs) = false := by simp
    go_wp2_with fail
    refine (eqInts_true _ _ _ _ _ _ _ og5.ints ow5.ints hnw).mono ?_
    rintro e w6 ⟨rfl, b6⟩
    have ox6 := ox5.below b6
    have ow6 := ow5.below b6
    have og6 := og5.below b6
    have x6 := x5.on b6
    have c6 := below_trans' c5 b6
    clear b6 c5 x5 ox5 ow5 og5
    go_wp2_with fail
    refine (toInt64S_any _ _ _ xs _ (h.on c6) hn).mono ?_
    rintro e w7 ⟨g7, rfl, _, r7, b7⟩
    have i7 := Ints.of_row r7 h.len
    have ox7 := ox6.below b7
    have ow7 := ow6.below b7
    have og7 := og6.below b7
    have x7 := x6.on b7
    have c7 := below_trans' c6 b7
    clear r7 b7 c6 x6 ox6 ow6 og6
    go_wp2_with fail
    refine (eqInts_true _ _ _ _ _ _ _ ox7.ints i7 hn).mono ?_
    rintro e w8 ⟨rfl, b8⟩
    have ox8 := ox7.below b8
    have ow8 := ow7.below b8
    have og8 := og7.below b8
    have x8 := x7.on b8
    have c8 := below_trans' c7 b8
    clear b8 c7 x7 ox7 ow7 og7 i7
    go_wp2_with fail
    refine (markInts_any _ _ _ _ 1 _ _ _ ox8 hn (by omega) (by omega)).mono ?_
    rintro e w9 ⟨rfl, _, row, hgr, hrow⟩
    have ow9 := ow8.apart hgr (fun g e => .inr (by have := (hrow g e).1; omega))
    have og9 := og8.apart hgr (fun g e => .inl (by have := (hrow g e).2; omega))
    have x9 := x8.grown hgr (fun e => by have := hrow _ e.symm; omega)
    have c9 := below_grown c8 hgr (fun g e => by have := (hrow g e).1; omega)
    clear hgr hrow row c8 x8 ox8 ow8 og8
    go_wp2_with fail
    refine (eqInts_true _ _ _ _ _ _ _ og9.ints ow9.ints hnw).mono ?_
    rintro e w10 ⟨rfl, b10⟩
    have ow10 := ow9.below b10
    have og10 := og9.below b10
    have x10 := x9.on b10
    have c10 := below_trans' c9 b10
    clear b10 ow9 og9 c9 x9
    go_wp2_with fail
    refine (markInts_any _ _ _ _ 1 _ _ _ og10 hnw (by omega) (by omega)).mono ?_
    rintro e w11 ⟨rfl, og11, row, hgr, hrow⟩
    have ow11 := ow10.apart hgr (fun g e => .inr (by have := (hrow g e).1; omega))
    have x11 := x10.grown hgr (fun e => by have := hrow _ e.symm; omega)
    have c11 := below_grown c10 hgr (fun g e => by have := (hrow g e).1; omega)
    clear hgr hrow row c10 ow10 og10 x10
    go_wp2_with fail
    refine (heldInts_any _ _ _ 1 _ og11.ints hnw (by omega) (by omega)).mono ?_
    rintro e w' ⟨rfl, rfl⟩
    have q1 : ((1 + (nw : Int)) != (1 + (nw : Int))) = false := by simp
    obtain ⟨q0, q1', q2, q3, q4⟩ := x11.cells
    go_wp2_with fail
    clear q0 q1' q2 q3 q4
    refine (toMaker_any m _).mono ?_
    rintro e w12 ⟨rfl, b12⟩
    have ow12 := ow11.below b12
    have og12 := og11.below b12
    have c12 := below_trans' c11 b12
    clear b12 c11 ow11 og11 x11
    go_wp2_with fail
    refine (toInt64S_any _ _ _ xs _ (h.on c12) hn).mono ?_
    rintro e w13 ⟨g13, rfl, _, r13, b13⟩
    have i13 := Ints.of_row r13 h.len
    have ow13 := ow12.below b13
    have og13 := og12.below b13
    have c13 := below_trans' c12 b13
    clear r13 b13 c12 ow12 og12
    go_wp2_with fail
    refine (nearestKey_any m _ _ _ xs _ i13 hn).mono ?_
    rintro e w14 ⟨Ah, nh, ch, rfl, oh14, hnh, _, _, b14⟩
    obtain rfl : nw = nh := by rw [← ow13.len, ← oh14.len]
    have ow14 := ow13.below b14
    have og14 := og13.below b14
    have c14 := below_trans' c13 b14
    clear b14 c13 ow13 og13 i13
    go_wp2_with fail
    refine (eqInts_true _ _ _ _ _ _ _ oh14.ints ow14.ints hnw).mono ?_
    rintro e w15 ⟨rfl, b15⟩
    have og15 := og14.below b15
    have c15 := below_trans' c14 b15
    clear b15 c14 ow14 og14 oh14
    go_wp2_with fail
    refine (heldInts_any _ _ _ 1 _ og15.ints hnw (by omega) (by omega)).mono ?_
    rintro e w' ⟨rfl, rfl⟩
    go_wp2
    go_ret
    exact ⟨rfl, c15⟩
  · go_enter Try.func18, Try.ntmps18
    go_wp2
    go_ret
    exact ⟨rfl, c0⟩

end Go.Proofs.Ytbadahnhlehidaa
