/- The law of ranks: its walk. -/
import Derived.Test.YtbadahnhlehidaaDrawKA
import Derived.Test.YtbadahnhlehidaaSRank
namespace Go.Proofs.Ytbadahnhlehidaa
open Go Go.RowKit

theorem fresh {A R : List (List Int)} {x : List Int} {m : Mk} (h : allKeys m = A ++ x :: R) : x ∉ A := by
  have hn := keys_nodup m m.C.toNat []
  have hn2 : (A ++ x :: R).Pairwise (· ≠ ·) := by rw [← h]; exact hn
  intro hx
  exact (List.pairwise_append.1 hn2).2.2 x hx x List.mem_cons_self rfl
theorem rank_at {A R : List (List Int)} {x : List Int} {m : Mk} (h : allKeys m = A ++ x :: R) : rankN m x = A.length := by
  unfold rankN
  rw [h, idx_at (fresh h)]
theorem kt_mem {m : Mk} {x : List Int} (hm : m.ok = true) (h : x ∈ allKeys m) : ktE m x = 0 := (kt_yes hm (all_are_keys hm h)).2
theorem ka_laws {m : Mk} {r : Int} (h : kaE m r = 0) : ktE m (kaL m r) = 0 ∧ rkV m (kaL m r) = r := by
  rcases hm : m.ok with _ | _
  · rw [(ka_bad hm).2] at h; cases h
  rcases hk : kaOk m r with _ | _
  · rw [(ka_no hm hk).2] at h; cases h
  unfold kaOk at hk
  rw [Bool.and_eq_true, decide_eq_true_eq, decide_eq_true_eq] at hk
  have hl : r.toNat < (allKeys m).length := by omega
  have hs : allKeys m = (allKeys m).take r.toNat ++ (allKeys m)[r.toNat] :: (allKeys m).drop (r.toNat + 1) := by
    rw [← List.drop_eq_getElem_cons hl, List.take_append_drop]
  have hlen : (((allKeys m).take r.toNat).length : Int) = r := by rw [List.length_take]; omega
  rw [(ka_yes hm hs hlen).1]
  have h0 := kt_mem hm (List.getElem_mem hl)
  exact ⟨h0, by rw [rk_yes h0, rank_at hs]; exact hlen⟩
theorem rank_laws {m : Mk} {xs : List Int} (h : ktE m xs = 0) : kaE m (rkV m xs) = 0 ∧ kaL m (rkV m xs) = xs ∧ 0 ≤ rkV m xs ∧ rkV m xs < 262144 ∧
    (nextE m xs = 4 ∨ (nextE m xs = 0 ∧ ktE m (nextL m xs) = 0 ∧ rkV m (nextL m xs) = rkV m xs + 1)) := by
  obtain ⟨hm, hk⟩ := kt_key h
  obtain ⟨A, hA⟩ := all_at hk
  have hr := rank_at hA
  have hb := (rank_is hk).2
  rw [rk_yes h]
  obtain ⟨a1, a2⟩ := ka_yes hm hA (r := (rankN m xs : Int)) (by rw [hr])
  refine ⟨a2, a1, by omega, by omega, ?_⟩
  obtain ⟨f1, f2, f3, f4, f5, f6⟩ := key_facts hk
  have hc := cuts_yes f2 f3
  rcases hn : nextAll m xs with _ | ⟨y, R⟩
  · exact .inl (next_none hm hc hn).2
  · obtain ⟨e1, e2⟩ := next_yes hm hc (ys := y) (by rw [hn]; rfl)
    rw [hn] at hA
    have hA2 : allKeys m = (A ++ [xs]) ++ y :: R := by rw [hA]; simp
    have h0 := kt_mem hm (x := y) (by rw [hA2]; simp)
    refine .inr ⟨e2, by rw [e1]; exact h0, ?_⟩
    rw [e1, rk_yes h0, rank_at hA2, hr]
    simp

set_option maxRecDepth 100000 in
set_option maxHeartbeats 8000000 in
theorem fnRanks_any (A : Option Addr) (n c : Nat) (w : World) (h : Bts w w.heap.size A n) :
    Calls Try.prog 19 #[.slice A n c] w fun e w' => e = .returned (.bool true) ∧ Below w.heap.size w w' := by
  by_cases hn : n ≤ 4096
  · have d0 : decide (4096 < (n : Int)) = false := by simp; omega
    have HB := Lib.hid h
    clear h
    go_enter Try.func19, Try.ntmps19
    go_wp2_with fail
    refine (big_any _ _ _ _).mono ?_
    rintro e w' ⟨rfl, rfl⟩
    rw [d0]
    clear d0
    go_wp2_with fail
    refine (drawRankOf_any w.heap.size A n c w HB.out (Nat.le_refl _) hn).mono ?_
    rintro e w1 ⟨m, D, k, d, xs, rfl, hSm, ox, hk, hkd, hd, b1⟩
    have y1 := Boxed.new w1 29 m
    have hx1 := ox.ints.alloc (Nat.le_refl _) (.cells #[.int .i64 m.C, .int .i64 m.D, .int .i64 m.S, .int .i64 m.M, .int .i64 m.L] 29)
    have b1 := b1.alloc b1.size (.cells #[.int .i64 m.C, .int .i64 m.D, .int .i64 m.S, .int .i64 m.M, .int .i64 m.L] 29)
    clear ox
    go_wp2_with fail
    refine (rankOf_any m _ _ _ xs _ hx1 (by omega)).mono ?_
    rintro e w2 ⟨rfl, b2⟩
    have y2 := y1.on b2
    have hx2 := hx1.on b2
    have c2 := below_trans' b1 b2
    clear b1 b2 y1 hx1
    obtain ⟨q0, q1, q2, q3, q4⟩ := y2.cells
    go_wp2_with fail
    clear q0 q1 q2 q3 q4
    refine (specRankOf_any m _ _ _ xs _ hx2 (by omega) hkd hd).mono ?_
    rintro e w5 ⟨rfl, b3⟩
    have y5 := y2.on b3
    have hx5 := hx2.on b3
    have c5 := below_trans' c2 b3
    have HB5 := Lib.hid (HB.out.keep (w' := w5) (fun p hp => c5.cell hp))
    have s5 := c5.size
    clear c2 b3 y2 hx2 hkd hd
    go_wp2_with fail
    refine (drawKeyAt_any w.heap.size A n c w5 HB5.out s5 hn).mono ?_
    rintro e w6 ⟨m2, r, rfl, hSm2, b6⟩
    have z6 := Boxed.new w6 29 m2
    have y6 := (y5.on b6).alloc (.cells #[.int .i64 m2.C, .int .i64 m2.D, .int .i64 m2.S, .int .i64 m2.M, .int .i64 m2.L] 29)
    have hx6 := (hx5.on b6).alloc (Nat.le_refl _) (.cells #[.int .i64 m2.C, .int .i64 m2.D, .int .i64 m2.S, .int .i64 m2.M, .int .i64 m2.L] 29)
    have c6 := (below_trans' c5 b6).alloc (below_trans' c5 b6).size (.cells #[.int .i64 m2.C, .int .i64 m2.D, .int .i64 m2.S, .int .i64 m2.M, .int .i64 m2.L] 29)
    clear c5 b6 y5 hx5 HB5 s5
    go_wp2_with fail
    refine (keyAt_any m2 r _).mono ?_
    rintro e w7 ⟨N, t, tc, rfl, o7, ht, _, _, b7⟩
    have z7 := z6.on b7
    have y7 := y6.on b7
    have hx7 := hx6.on b7
    have c7 := below_trans' c6 b7
    have hl7 := o7.ints
    clear c6 b7 z6 y6 hx6 o7
    obtain ⟨q0, q1, q2, q3, q4⟩ := z7.cells
    go_wp2_with fail
    clear q0 q1 q2 q3 q4
    refine (specKeyAt_any m2 r _).mono ?_
    rintro e w8 ⟨N', t', tc', rfl, o8, ht', _, _, b8⟩
    have hr8 := o8.ints
    have hl8 := hl7.on b8
    obtain rfl : t = t' := by rw [← hl8.len, ← hr8.len]
    have z8 := z7.on b8
    have y8 := y7.on b8
    have hx8 := hx7.on b8
    have c8 := below_trans' c7 b8
    clear c7 b8 z7 y7 hx7 o8 ht' hl7
    have f1 : (ktE m xs != ktE m xs) = false := by simp
    have f2 : (rkV m xs != rkV m xs) = false := by simp
    have f3 : (kaE m2 r != kaE m2 r) = false := by simp
    have f4 : (r != r) = false := by simp
    go_wp2_with fail
    refine (likeInts_true _ _ _ _ _ _ _ hl8 hr8 ht).mono ?_
    rintro e w9 ⟨rfl, b9⟩
    have z9 := z8.on b9
    have y9 := y8.on b9
    have hx9 := hx8.on b9
    have hl9 := hl8.on b9
    have c9 := below_trans' c8 b9
    clear c8 z8 y8 hx8 hl8 hr8 b9
    by_cases hr0 : kaE m2 r = 0
    · have G1 := Lib.hid (ka_laws hr0)
      have rb : (kaE m2 r == 0) = true := by rw [hr0]; rfl
      obtain ⟨q0, q1, q2, q3, q4⟩ := z9.cells
      go_wp2_with fail
      clear q0 q1 q2 q3 q4
      refine (rankOf_any m2 _ _ _ _ _ hl9 ht).mono ?_
      rw [G1.out.1, G1.out.2]
      rintro e w10 ⟨rfl, b10⟩
      have y10 := y9.on b10
      have hx10 := hx9.on b10
      have c10 := below_trans' c9 b10
      clear y9 hx9 c9 b10 hl9 z9 G1
      by_cases hk0 : ktE m xs = 0
      · obtain ⟨e1, e2, e3, e4, e5⟩ := rank_laws hk0
        have E1 := Lib.hid e1
        have E2 := Lib.hid e2
        have kb : (ktE m xs != 0) = false := by rw [hk0]; rfl
        have v1 : IntKind.i64.wrap (rkV m xs + 1) = rkV m xs + 1 := by rw [IntKind.wrap_i64]; omega
        have g1 : (rkV m xs + 1 == rkV m xs + 1) = true := by simp
        obtain ⟨q0, q1, q2, q3, q4⟩ := y10.cells
        clear e1 e2 hk0
        go_wp2_with fail
        clear q0 q1 q2 q3 q4
        refine (keyAt_any m (rkV m xs) _).mono ?_
        rw [E1.out, E2.out]
        rintro e wa ⟨N1, t1, tc1, rfl, o1, ht1, _, _, ba⟩
        have ya := y10.on ba
        have hxa := hx10.on ba
        have ca := below_trans' c10 ba
        have ua := o1.ints
        obtain rfl : t1 = k := by rw [← ua.len, ← hxa.len]
        clear y10 hx10 c10 ba o1
        obtain ⟨q0, q1, q2, q3, q4⟩ := ya.cells
        rcases e5 with e6 | ⟨e6, e7, e8⟩
        · have E6 := Lib.hid e6
          clear e6
          go_wp2_with fail
          clear q0 q1 q2 q3 q4
          refine (nextKey_any m _ _ _ xs _ hxa (by omega)).mono ?_
          rw [E6.out]
          rintro e wb ⟨N2, t2, tc2, rfl, o2, ht2, _, _, bb⟩
          have hxb := hxa.on bb
          have ub := ua.on bb
          have cb := below_trans' ca bb
          clear ya hxa ca bb ua o2
          go_wp2_with fail
          refine (likeInts_true _ _ _ _ _ xs _ ub hxb ht1).mono ?_
          rintro e wc ⟨rfl, bc⟩
          have hxc := hxb.on bc
          have uc := ub.on bc
          have cc := below_trans' cb bc
          clear hxb cb bc ub
          go_wp2_with fail
          refine (likeInts_true _ _ _ _ _ xs _ uc hxc ht1).mono ?_
          rintro e wd ⟨rfl, bd⟩
          have cd := below_trans' cc bd
          clear hxc cc bd uc
          go_wp2
          go_ret
          exact ⟨rfl, cd⟩
        · have E6 := Lib.hid e6
          have E7 := Lib.hid e7
          have E8 := Lib.hid e8
          clear e6 e7 e8
          go_wp2_with fail
          clear q0 q1 q2 q3 q4
          refine (nextKey_any m _ _ _ xs _ hxa (by omega)).mono ?_
          rw [E6.out]
          rintro e wb ⟨N2, t2, tc2, rfl, o2, ht2, _, _, bb⟩
          have yb := ya.on bb
          have hxb := hxa.on bb
          have ub := ua.on bb
          have cb := below_trans' ca bb
          have vb := o2.ints
          clear ya hxa ca bb ua o2
          go_wp2_with fail
          refine (likeInts_true _ _ _ _ _ xs _ ub hxb ht1).mono ?_
          rintro e wc ⟨rfl, bc⟩
          have yc := yb.on bc
          have vc := vb.on bc
          have cc := below_trans' cb bc
          clear yb hxb cb bc ub vb
          obtain ⟨q0, q1, q2, q3, q4⟩ := yc.cells
          go_wp2_with fail
          clear q0 q1 q2 q3 q4
          refine (rankOf_any m _ _ _ _ _ vc ht2).mono ?_
          rw [E7.out, E8.out]
          rintro e wd ⟨rfl, bd⟩
          have cd := below_trans' cc bd
          clear yc vc cc bd
          go_wp2
          go_ret
          exact ⟨rfl, cd⟩
      · have kb : (ktE m xs != 0) = true := by simpa using hk0
        go_wp2
        go_ret
        exact ⟨rfl, c10⟩
    · have rb : (kaE m2 r == 0) = false := by simpa using hr0
      by_cases hk0 : ktE m xs = 0
      · obtain ⟨e1, e2, e3, e4, e5⟩ := rank_laws hk0
        have E1 := Lib.hid e1
        have E2 := Lib.hid e2
        have kb : (ktE m xs != 0) = false := by rw [hk0]; rfl
        have v1 : IntKind.i64.wrap (rkV m xs + 1) = rkV m xs + 1 := by rw [IntKind.wrap_i64]; omega
        have g1 : (rkV m xs + 1 == rkV m xs + 1) = true := by simp
        obtain ⟨q0, q1, q2, q3, q4⟩ := y9.cells
        clear e1 e2 hk0
        go_wp2_with fail
        clear q0 q1 q2 q3 q4
        refine (keyAt_any m (rkV m xs) _).mono ?_
        rw [E1.out, E2.out]
        rintro e wa ⟨N1, t1, tc1, rfl, o1, ht1, _, _, ba⟩
        have ya := y9.on ba
        have hxa := hx9.on ba
        have ca := below_trans' c9 ba
        have ua := o1.ints
        obtain rfl : t1 = k := by rw [← ua.len, ← hxa.len]
        clear y9 hx9 c9 ba o1
        obtain ⟨q0, q1, q2, q3, q4⟩ := ya.cells
        rcases e5 with e6 | ⟨e6, e7, e8⟩
        · have E6 := Lib.hid e6
          clear e6
          go_wp2_with fail
          clear q0 q1 q2 q3 q4
          refine (nextKey_any m _ _ _ xs _ hxa (by omega)).mono ?_
          rw [E6.out]
          rintro e wb ⟨N2, t2, tc2, rfl, o2, ht2, _, _, bb⟩
          have hxb := hxa.on bb
          have ub := ua.on bb
          have cb := below_trans' ca bb
          clear ya hxa ca bb ua o2
          go_wp2_with fail
          refine (likeInts_true _ _ _ _ _ xs _ ub hxb ht1).mono ?_
          rintro e wc ⟨rfl, bc⟩
          have hxc := hxb.on bc
          have uc := ub.on bc
          have cc := below_trans' cb bc
          clear hxb cb bc ub
          go_wp2_with fail
          refine (likeInts_true _ _ _ _ _ xs _ uc hxc ht1).mono ?_
          rintro e wd ⟨rfl, bd⟩
          have cd := below_trans' cc bd
          clear hxc cc bd uc
          go_wp2
          go_ret
          exact ⟨rfl, cd⟩
        · have E6 := Lib.hid e6
          have E7 := Lib.hid e7
          have E8 := Lib.hid e8
          clear e6 e7 e8
          go_wp2_with fail
          clear q0 q1 q2 q3 q4
          refine (nextKey_any m _ _ _ xs _ hxa (by omega)).mono ?_
          rw [E6.out]
          rintro e wb ⟨N2, t2, tc2, rfl, o2, ht2, _, _, bb⟩
          have yb := ya.on bb
          have hxb := hxa.on bb
          have ub := ua.on bb
          have cb := below_trans' ca bb
          have vb := o2.ints
          clear ya hxa ca bb ua o2
          go_wp2_with fail
          refine (likeInts_true _ _ _ _ _ xs _ ub hxb ht1).mono ?_
          rintro e wc ⟨rfl, bc⟩
          have yc := yb.on bc
          have vc := vb.on bc
          have cc := below_trans' cb bc
          clear yb hxb cb bc ub vb
          obtain ⟨q0, q1, q2, q3, q4⟩ := yc.cells
          go_wp2_with fail
          clear q0 q1 q2 q3 q4
          refine (rankOf_any m _ _ _ _ _ vc ht2).mono ?_
          rw [E7.out, E8.out]
          rintro e wd ⟨rfl, bd⟩
          have cd := below_trans' cc bd
          clear yc vc cc bd
          go_wp2
          go_ret
          exact ⟨rfl, cd⟩
      · have kb : (ktE m xs != 0) = true := by simpa using hk0
        go_wp2
        go_ret
        exact ⟨rfl, c9⟩
  · have d0 : decide (4096 < (n : Int)) = true := by simp; omega
    go_enter Try.func19, Try.ntmps19
    go_wp2_with fail
    refine (big_any _ _ _ _).mono ?_
    rintro e w' ⟨rfl, rfl⟩
    rw [d0]
    go_wp2
    go_ret
    exact ⟨rfl, Below.refl _ _⟩

end Go.Proofs.Ytbadahnhlehidaa
