/- The law of KeyAt. -/
import Derived.Test.YtbadahnhlehidaaSRank
import Derived.Test.YtbadahnhlehidaaLNext
namespace Go.Proofs.Ytbadahnhlehidaa
open Go.RowKit

set_option maxHeartbeats 1000000 in
theorem lawKeyAt_any (m : Mk) (r : Int) (w : World) :
    Calls Try.prog 16 #[.agg #[.int .i64 m.C, .int .i64 m.D, .int .i64 m.S, .int .i64 m.M, .int .i64 m.L], .int .i64 r] w fun e w' => e = .returned (.bool true) ∧ Below w.heap.size w w' := by
  have hx0 := Boxed.new w 23 m
  have c0 := (Below.refl w.heap.size w).alloc (Nat.le_refl _) (.cells #[.int .i64 m.C, .int .i64 m.D, .int .i64 m.S, .int .i64 m.M, .int .i64 m.L] 23)
  go_enter Try.func16, Try.ntmps16
  go_wp2_with fail
  refine (toMaker_any m _).mono ?_
  rintro e w1 ⟨rfl, b1⟩
  have x1 := hx0.on b1
  have c1 := below_trans' c0 b1
  clear hx0 c0 b1
  go_wp2_with fail
  refine (specKeyAt_any m r _).mono ?_
  rintro e w2 ⟨Aw, nw, cw, rfl, ow2, hnw, _, _, b2⟩
  have x2 := x1.on b2
  have c2 := below_trans' c1 b2
  clear b2 c1 x1
  obtain ⟨q0, q1, q2, q3, q4⟩ := x2.cells
  go_wp2_with fail
  clear q0 q1 q2 q3 q4
  refine (toMaker_any m _).mono ?_
  rintro e w3 ⟨rfl, b3⟩
  have ow3 := ow2.below b3
  have x3 := x2.on b3
  have c3 := below_trans' c2 b3
  have s3 := b3.size
  have l3 := x3.lt
  clear b3 c2 x2
  go_wp2_with fail
  refine (keyAt_any m r _).mono ?_
  rintro e w4 ⟨Ag, ng, cg, rfl, og4, hng, _, _, b4⟩
  obtain rfl : nw = ng := by rw [← ow2.len, ← og4.len]
  have ow4 := ow3.below b4
  have x4 := x3.on b4
  have c4 := below_trans' c3 b4
  have s4 := c3.size
  clear b4 c3 ow3 x3 ow2
  have d2 : (kaE m r != kaE m r) = false := by simp
  go_wp2_with fail
  refine (eqInts_true _ _ _ _ _ _ _ og4.ints ow4.ints hnw).mono ?_
  rintro e w5 ⟨rfl, b5⟩
  have ow5 := ow4.below b5
  have og5 := og4.below b5
  have x5 := x4.on b5
  have c5 := below_trans' c4 b5
  clear b5 c4 ow4 og4 x4
  go_wp2_with fail
  refine (markInts_any _ _ _ _ 1 _ _ _ og5 hnw (by omega) (by omega)).mono ?_
  rintro e w6 ⟨rfl, og6, row, hgr, hrow⟩
  have ow6 := ow5.apart hgr (fun g e => .inr (by have := (hrow g e).1; omega))
  have x6 := x5.grown hgr (fun e => by have := hrow _ e.symm; omega)
  have c6 := below_grown c5 hgr (fun g e => by have := (hrow g e).1; omega)
  clear hgr hrow row c5 ow5 og5 x5
  go_wp2_with fail
  refine (heldInts_any _ _ _ 1 _ og6.ints hnw (by omega) (by omega)).mono ?_
  rintro e w' ⟨rfl, rfl⟩
  have q1 : ((1 + (nw : Int)) != (1 + (nw : Int))) = false := by simp
  obtain ⟨q0, q1', q2, q3, q4⟩ := x6.cells
  go_wp2_with fail
  clear q0 q1' q2 q3 q4
  refine (toMaker_any m _).mono ?_
  rintro e w7 ⟨rfl, b7⟩
  have ow7 := ow6.below b7
  have og7 := og6.below b7
  have c7 := below_trans' c6 b7
  clear b7 c6 ow6 og6 x6
  go_wp2_with fail
  refine (keyAt_any m r _).mono ?_
  rintro e w8 ⟨Ah, nh, ch, rfl, oh8, hnh, _, _, b8⟩
  obtain rfl : nw = nh := by rw [← ow7.len, ← oh8.len]
  have ow8 := ow7.below b8
  have og8 := og7.below b8
  have c8 := below_trans' c7 b8
  clear b8 c7 ow7 og7
  go_wp2_with fail
  refine (eqInts_true _ _ _ _ _ _ _ oh8.ints ow8.ints hnw).mono ?_
  rintro e w9 ⟨rfl, b9⟩
  have og9 := og8.below b9
  have c9 := below_trans' c8 b9
  clear b9 c8 ow8 og8 oh8
  go_wp2_with fail
  refine (heldInts_any _ _ _ 1 _ og9.ints hnw (by omega) (by omega)).mono ?_
  rintro e w' ⟨rfl, rfl⟩
  go_wp2
  go_ret
  exact ⟨rfl, c9⟩

end Go.Proofs.Ytbadahnhlehidaa
