/- The law of NearestFamily. -/
import Derived.Test.YtpabccgndhmcdaaNearF
namespace Go.Proofs.Ytpabccgndhmcdaa
open Go.RowKit

set_option maxHeartbeats 2000000 in
theorem lawNearestFamily_any (s v d : Int) (A : Option Addr) (n c : Nat) (xs : List Int) (W : World) (h : Ints W W.heap.size A n xs) :
    Calls Try.prog 10 #[.int .i64 s, .int .i64 v, .int .i64 d, .slice A n c] W fun e w' => e = .returned (.bool true) ∧ Below W.heap.size W w' := by
  by_cases hn' : ¬ n ≤ 1048576
  · go_enter Try.func10, Try.ntmps10
    go_wp2
    go_ret
    exact ⟨rfl, Below.refl _ _⟩
  have hn := Decidable.not_not.1 hn'
  clear hn'
  have e1 : (nfE s v d xs != nfE s v d xs) = false := by simp
  obtain ⟨L, hL⟩ : ∃ L, nfL s v d xs = L := ⟨_, rfl⟩
  have HLL := Lib.hid hL
  clear hL
  go_enter Try.func10, Try.ntmps10
  go_wp2_with fail
  refine (toInt64S_any _ _ _ xs _ h hn).mono ?_
  rintro e w1 ⟨g1, rfl, _, r1, c1⟩
  have i1 := Ints.of_row r1 h.len
  clear r1
  go_wp2_with fail
  refine (specNearestFamily_any s v d _ _ _ xs _ i1 hn).mono ?_
  rw [HLL.out]
  rintro e w2 ⟨Aw, nw, cw, rfl, iw, hnw, b2⟩
  have c2 := below_trans' c1 b2
  have HW := Lib.hid iw
  have hWl := iw.len
  have c2s := c2.size
  clear i1 c1 b2 iw
  go_wp2_with fail
  refine (toInt64S_any _ _ _ xs _ (h.on c2) hn).mono ?_
  rintro e w3 ⟨g3, rfl, hg3, r3, b3⟩
  have ox3 := Own.of_row r3 h.len hg3
  have c3 := below_trans' c2 b3
  have s3 := b3.size
  have bw3 := b3
  clear r3 c2 b3 hg3
  go_wp2_with fail
  refine (nearestFamily_any s v d _ _ _ xs _ ox3.ints hn (Nat.le_refl _) (by omega)).mono ?_
  rw [HLL.out]
  rintro e w4 ⟨Ag, ng, cg, rfl, og4, hng, _, _, b4⟩
  obtain rfl : nw = ng := by rw [← hWl, ← og4.len]
  have ox4 := ox3.below b4
  have c4 := below_trans' c3 b4
  have s4 := b4.size
  have bw4 := below_trans' bw3 b4
  clear c3 b4 ox3 bw3
  go_wp2_with fail
  refine (eqInts_true _ _ _ _ _ _ _ og4.ints (HW.out.on bw4) hnw).mono ?_
  rintro e w5 ⟨rfl, b5⟩
  have ox5 := ox4.below b5
  have og5 := og4.below b5
  have c5 := below_trans' c4 b5
  have bw5 := below_trans' bw4 b5
  clear c4 b5 ox4 og4 bw4
  go_wp2_with fail
  refine (toInt64S_any _ _ _ xs _ (h.on c5) hn).mono ?_
  rintro e w6 ⟨g6, rfl, _, r6, b6⟩
  have i6 := Ints.of_row r6 h.len
  have ox6 := ox5.below b6
  have og6 := og5.below b6
  have c6 := below_trans' c5 b6
  have bw6 := below_trans' bw5 b6
  clear r6 c5 b6 ox5 og5 bw5
  go_wp2_with fail
  refine (eqInts_true _ _ _ _ _ _ _ ox6.ints i6 hn).mono ?_
  rintro e w7 ⟨rfl, b7⟩
  have ox7 := ox6.below b7
  have og7 := og6.below b7
  have c7 := below_trans' c6 b7
  have bw7 := below_trans' bw6 b7
  clear c6 b7 ox6 og6 i6 bw6
  go_wp2_with fail
  refine (markInts_any _ _ _ _ 1 _ _ _ ox7 hn (by omega) (by omega)).mono ?_
  rintro e w8 ⟨rfl, _, row, hgr, hrow⟩
  have og8 := og7.apart hgr (fun g e => .inl (hrow g e).2)
  have c8 := below_grown c7 hgr (fun g e => by have := (hrow g e).1; omega)
  have bw8 := below_grown bw7 hgr (fun g e => by have := (hrow g e).1; omega)
  clear hgr hrow row c7 ox7 og7 bw7
  have hk : ¬ (1 + (n : Int)) < 0 := by omega
  go_wp2_with fail
  refine (eqInts_true _ _ _ _ _ _ _ og8.ints (HW.out.on bw8) hnw).mono ?_
  rintro e w9 ⟨rfl, b9⟩
  have og9 := og8.below b9
  have c9 := below_trans' c8 b9
  have bw9 := below_trans' bw8 b9
  clear b9 og8 c8 bw8
  go_wp2_with fail
  refine (markInts_any _ _ _ _ 1 _ _ _ og9 hnw (by omega) (by omega)).mono ?_
  rintro e w10 ⟨rfl, og10, row, hgr, hrow⟩
  have c10 := below_grown c9 hgr (fun g e => by have := (hrow g e).1; omega)
  have bw10 := below_grown bw9 hgr (fun g e => by have := (hrow g e).1; omega)
  clear hgr hrow row c9 og9 bw9
  go_wp2_with fail
  refine (heldInts_any _ _ _ 1 _ og10.ints hnw (by omega) (by omega)).mono ?_
  rintro e w' ⟨rfl, rfl⟩
  have q1 : ((1 + (nw : Int)) != (1 + (nw : Int))) = false := by simp
  go_wp2_with fail
  refine (toInt64S_any _ _ _ xs _ (h.on c10) hn).mono ?_
  rintro e w11 ⟨g11, rfl, _, r11, b11⟩
  have i11 := Ints.of_row r11 h.len
  have og11 := og10.below b11
  have c11 := below_trans' c10 b11
  have bw11 := below_trans' bw10 b11
  clear r11 b11 c10 og10 bw10
  go_wp2_with fail
  refine (nearestFamily_any s v d _ _ _ xs _ i11 hn (Nat.le_refl _) (by omega)).mono ?_
  rw [HLL.out]
  rintro e w12 ⟨Ah, nh, ch, rfl, oh12, hnh, _, _, b12⟩
  obtain rfl : nw = nh := by rw [← hWl, ← oh12.len]
  have og12 := og11.below b12
  have c12 := below_trans' c11 b12
  have bw12 := below_trans' bw11 b12
  clear b12 c11 og11 i11 bw11
  go_wp2_with fail
  refine (eqInts_true _ _ _ _ _ _ _ oh12.ints (HW.out.on bw12) hnw).mono ?_
  rintro e w13 ⟨rfl, b13⟩
  have og13 := og12.below b13
  have c13 := below_trans' c12 b13
  clear b13 c12 og12 oh12
  go_wp2_with fail
  refine (heldInts_any _ _ _ 1 _ og13.ints hnw (by omega) (by omega)).mono ?_
  rintro e w' ⟨rfl, rfl⟩
  go_wp2
  go_ret
  exact ⟨rfl, c13⟩

end Go.Proofs.Ytpabccgndhmcdaa
