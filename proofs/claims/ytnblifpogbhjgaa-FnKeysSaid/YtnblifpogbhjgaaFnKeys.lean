/- The law of keys: its walk. -/
import Derived.Test.YtnblifpogbhjgaaDrawNK
import Derived.Test.YtnblifpogbhjgaaFnFaults
import Derived.Test.YtnblifpogbhjgaaCount5
namespace Go.Proofs.Ytnblifpogbhjgaa
open Go.RowKit

theorem key_at {m : Mk} (hm : m.ok = true) {i : Nat} {ys : List Int} (h : (allKeys m)[i]? = some ys) : isKeyB m ys = true ∧ (ys.length : Int) = m.C ∧ cutsB m ys = true ∧ nextAll m ys = (allKeys m).drop (i + 1) := by
  obtain ⟨hl, e⟩ := List.getElem?_eq_some_iff.1 h
  have hsplit : allKeys m = (allKeys m).take i ++ ys :: (allKeys m).drop (i + 1) := by
    rw [← e, ← List.drop_eq_getElem_cons hl, List.take_append_drop]
  have hn := next_of hm hsplit
  have hmem : ys ∈ allKeys m := by rw [hsplit]; simp
  have hk := all_are_keys hm hmem
  obtain ⟨f1, f2, f3, f4, f5, f6⟩ := key_facts hk
  exact ⟨hk, f2, cuts_yes f2 f3, hn⟩
theorem next_more {m : Mk} (hm : m.ok = true) {i : Nat} {ys ys' : List Int} (h : (allKeys m)[i]? = some ys) (h' : (allKeys m)[i + 1]? = some ys') : nextE m ys = 0 ∧ nextL m ys = ys' := by
  obtain ⟨_, _, hc, hn⟩ := key_at hm h
  obtain ⟨e1, e2⟩ := next_yes hm (xs := ys) (ys := ys') hc (by rw [hn, List.head?_drop]; exact h')
  exact ⟨e2, e1⟩
theorem next_last {m : Mk} (hm : m.ok = true) {i : Nat} {ys : List Int} (h : (allKeys m)[i]? = some ys) (h' : (allKeys m).length = i + 1) : nextE m ys = 4 ∧ nextL m ys = [] := by
  obtain ⟨_, _, hc, hn⟩ := key_at hm h
  obtain ⟨e1, e2⟩ := next_none hm (xs := ys) hc (by rw [hn, ← h', List.drop_length])
  exact ⟨e2, e1⟩

set_option maxRecDepth 100000 in
set_option maxHeartbeats 8000000 in
theorem fnKeys_any (A : Option Addr) (n c : Nat) (w : World) (h : Bts w w.heap.size A n) :
    Calls Try.prog 3 #[.slice A n c] w fun e w' => e = .returned (.bool true) ∧ Below w.heap.size w w' := by
  by_cases hn : n ≤ 4096
  · have d0 : decide (4096 < (n : Int)) = false := by simp; omega
    have HB := Lib.hid h
    clear h
    go_enter Try.func3, Try.ntmps3
    go_wp2_with fail
    refine (big_any _ _ _ _).mono ?_
    rintro e w' ⟨rfl, rfl⟩
    rw [d0]
    clear d0
    go_wp2_with fail
    refine (drawCountKeys_any w.heap.size A n c w HB.out (Nat.le_refl _) hn).mono ?_
    rintro e w1 ⟨m, rfl, hSm, b1⟩
    have y1 := Boxed.new w1 25 m
    have b1 := b1.alloc b1.size (.cells #[.int .i64 m.C, .int .i64 m.D, .int .i64 m.S, .int .i64 m.M, .int .i64 m.L] 25)
    go_wp2_with fail
    refine (countKeys_any m _).mono ?_
    rintro e w2 ⟨rfl, b2⟩
    have y2 := y1.on b2
    have c2 := below_trans' b1 b2
    clear b1 b2 y1
    obtain ⟨q0, q1, q2, q3, q4⟩ := y2.cells
    go_wp2_with fail
    clear q0 q1 q2 q3 q4
    refine (specCountKeys_any m _).mono ?_
    rintro e w3 ⟨rfl, b3⟩
    have y3 := y2.on b3
    have c3 := below_trans' c2 b3
    have HB3 := Lib.hid (HB.out.keep (w' := w3) (fun p hp => c3.cell hp))
    have s3 := c3.size
    clear c2 b3 y2
    go_wp2_with fail
    refine (drawNextKey_any w.heap.size A n c w3 HB3.out s3 hn).mono ?_
    rintro e w4 ⟨m2, D, k, d, xs, rfl, hSm2, hx4, hk, hkd, hd, b4⟩
    have z4 := Boxed.new w4 25 m2
    have hx4 := hx4.alloc (Nat.le_refl _) (.cells #[.int .i64 m2.C, .int .i64 m2.D, .int .i64 m2.S, .int .i64 m2.M, .int .i64 m2.L] 25)
    have y4 := (y3.on b4).alloc (.cells #[.int .i64 m2.C, .int .i64 m2.D, .int .i64 m2.S, .int .i64 m2.M, .int .i64 m2.L] 25)
    have c4 := (below_trans' c3 b4).alloc (below_trans' c3 b4).size (.cells #[.int .i64 m2.C, .int .i64 m2.D, .int .i64 m2.S, .int .i64 m2.M, .int .i64 m2.L] 25)
    clear c3 b4 y3 HB3 s3
    go_wp2_with fail
    refine (nextKey_any m2 _ _ _ xs _ hx4 hk).mono ?_
    rintro e w5 ⟨N, p, pc_, rfl, o5, hp, _, _, b5⟩
    have z5 := z4.on b5
    have y5 := y4.on b5
    have hx5 := hx4.on b5
    have c5 := below_trans' c4 b5
    have hl5 := o5.ints
    clear c4 b5 z4 y4 hx4 o5
    obtain ⟨q0, q1, q2, q3, q4⟩ := z5.cells
    go_wp2_with fail
    clear q0 q1 q2 q3 q4
    refine (specNextKey_any m2 _ _ _ xs _ hx5 hk hkd).mono ?_
    rintro e w6 ⟨N', p', pc', rfl, o6, hp', _, _, b6⟩
    have hr6 := o6.ints
    have hl6 := hl5.on b6
    obtain rfl : p = p' := by rw [← hl6.len, ← hr6.len]
    have y6 := y5.on b6
    have c6 := below_trans' c5 b6
    clear c5 b6 z5 y5 hx5 o6 hp' hl5
    obtain ⟨q0, q1, q2, q3, q4⟩ := y6.cells
    go_wp2_with fail
    clear q0 q1 q2 q3 q4
    refine (firstKey_any m _).mono ?_
    rintro e w7 ⟨F, v, vc, rfl, o7, hv, _, _, b7⟩
    have hf7 := o7.ints
    have hl7 := hl6.on b7
    have hr7 := hr6.on b7
    have y7 := y6.on b7
    have c7 := below_trans' c6 b7
    clear c6 b7 y6 hl6 hr6 o7
    obtain ⟨q0, q1, q2, q3, q4⟩ := y7.cells
    go_wp2_with fail
    clear q0 q1 q2 q3 q4
    refine (specFirstKey_any m _).mono ?_
    rintro e w8 ⟨F', v', vc', rfl, o8, hv', _, _, b8⟩
    have hg8 := o8.ints
    have hf8 := hf7.on b8
    obtain rfl : v = v' := by rw [← hf8.len, ← hg8.len]
    have hl8 := hl7.on b8
    have hr8 := hr7.on b8
    have y8 := y7.on b8
    have c8 := below_trans' c7 b8
    clear c7 b8 y7 hl7 hr7 hf7 o8 hv'
    have f1 : (cntE m != cntE m) = false := by simp
    have f2 : (cntV m != cntV m) = false := by simp
    have f3 : (nextE m2 xs != nextE m2 xs) = false := by simp
    have f4 : (firstE m != firstE m) = false := by simp
    have f5 : (m.ok != m.ok) = false := by simp
    have I1 := Lib.hid (show Ints w8.drew w8.drew.heap.size N p (nextL m2 xs) from hl8)
    have I2 := Lib.hid (show Ints w8.drew w8.drew.heap.size N' p (nextL m2 xs) from hr8)
    have Y8 := Lib.hid y8
    have C8 := Lib.hid c8
    have F8 := Lib.hid hf8
    have G8 := Lib.hid hg8
    obtain ⟨q0, q1, q2, q3, q4⟩ := y8.cells
    clear hl8 hr8 y8 c8 hf8 hg8
    go_wp2
    go_region_held3 (fun w' => w'.cell? ⟨w1.heap.size, 0, none⟩ = some (.int .i64 m.C) ∧ w'.cell? ⟨w1.heap.size, 1, none⟩ = some (.int .i64 m.D) ∧ w'.cell? ⟨w1.heap.size, 2, none⟩ = some (.int .i64 m.S) ∧ w'.cell? ⟨w1.heap.size, 3, none⟩ = some (.int .i64 m.M) ∧ w'.cell? ⟨w1.heap.size, 4, none⟩ = some (.int .i64 m.L))
      (first
        | go_keep
        | with_reducible exact Ya.out.cells
        | with_reducible exact Yb.out.cells
        | with_reducible exact Yc.out.cells
        | with_reducible exact Yd.out.cells)
      (first
        | (go_at_call 24; (fail_if_success (have := Ya.out)); refine (likeInts_true N N' p pc_ pc' (nextL m2 xs) w8.drew I1.out I2.out hp).mono ?_; rintro e wa ⟨rfl, ba⟩; have Ya := Lib.hid (Boxed.on (w := w8.drew) Y8.out ba); have Fa := Lib.hid (Ints.on (w := w8.drew) F8.out ba); have Ga := Lib.hid (Ints.on (w := w8.drew) G8.out ba); have Ca := Lib.hid (below_trans' C8.out.drew ba))
        | (go_at_call 24; refine (likeInts_true F F' v vc vc' (firstL m) wa Fa.out Ga.out hv).mono ?_; rintro e wb ⟨rfl, bb⟩; have Yb := Lib.hid (Ya.out.on bb); have Fb := Lib.hid (Fa.out.on bb); have Cb := Lib.hid (below_trans' Ca.out bb))
        | (go_at_call 25; refine (isMaker_any m _).mono ?_; rintro e wc ⟨rfl, bc⟩; have Yc := Lib.hid (Yb.out.on bc); have Fc := Lib.hid (Fb.out.on bc); have Cc := Lib.hid (below_trans' Cb.out bc))
        | (go_at_call 26; refine (specIsMaker_any m _).mono ?_; rintro e wd ⟨rfl, bd⟩; have Yd := Lib.hid (Yc.out.on bd); have Fd := Lib.hid (Fc.out.on bd); have Cd := Lib.hid (below_trans' Cc.out bd)))
    all_goals
      clear q0 q1 q2 q3 q4 I1 I2 Ya Yb Yc Fa Fb Fc Ga Ca Cb Cc f1 f2 f3 f4 f5 Y8 C8 F8 G8 ba bb bc bd
      rcases hm : m.ok with _ | _
      · obtain ⟨e1, e2⟩ := cnt_bad hm
        have eb : (cntE m != 0) = true := by rw [e2]; rfl
        have hcd := Cd.out
        clear e1 e2 hm
        go_wp2
        go_ret
        exact ⟨rfl, hcd⟩
      obtain ⟨e1, e2⟩ := cnt_yes hm
      have eb : (cntE m != 0) = false := by rw [e2]; rfl
      have HM := Lib.hid hm
      have HV := Lib.hid e1
      have hpos : 0 < cntV m := by
        rw [e1]
        have := all_some hm
        cases hq : allKeys m with
        | nil => exact absurd hq this
        | cons a b => simp
      have H0 : Hid ((allKeys m)[0]? = some (firstL m)) := Lib.hid (by
        unfold firstL
        rw [if_pos hm]
        have := all_some hm
        cases hq : allKeys m with
        | nil => exact absurd hq this
        | cons a b => rfl)
      clear e1 e2 hm
      by_cases hbig : 1500 < cntV m
      · have hcd := Cd.out
        go_wp2
        go_ret
        exact ⟨rfl, hcd⟩
      go_wp2
      go_loopw [18, 19] (fun a v wr => ∃ (i : Nat) (K : Option Addr) (r kc : Nat) (ys : List Int), a = .int .i64 (i : Int) ∧ v = .slice K r kc ∧ Hid ((allKeys m)[i]? = some ys) ∧ Hid (Ints wr wr.heap.size K r ys) ∧ r ≤ 1048576 ∧ (i : Int) < cntV m ∧ Hid (Boxed wr w1.heap.size 25 m) ∧ Hid (Below w.heap.size w wr)) (fun a _ _ => 1501 - (intOf a).toNat)
      case atStart => exact ⟨0, F, v, vc, _, rfl, rfl, H0, Fd, hv, by omega, Yd, Cd⟩
      case round =>
        clear H0 Fd Yd Cd
        obtain ⟨i, K, r, kc, ys, rfl, rfl, HK, HI, hr, hiV, HY, HC⟩ := hrel
        obtain ⟨k1, _, _, _⟩ := key_at HM.out HK.out
        have KB := Lib.hid k1
        obtain ⟨q0, q1, q2, q3, q4⟩ := HY.out.cells
        have hng : ¬ cntV m < (i : Int) := by omega
        clear k1
        go_wp2_with fail
        clear q0 q1 q2 q3 q4
        refine (isKey_any m K r kc ys _ HI.out hr).mono ?_
        rw [KB.out]
        rintro e x2 ⟨rfl, b2⟩
        have X2 := Lib.hid (HY.out.on b2)
        have I2 := Lib.hid (HI.out.on b2)
        have C2 := Lib.hid (below_trans' HC.out b2)
        clear HY HI HC b2 KB
        obtain ⟨q0, q1, q2, q3, q4⟩ := X2.out.cells
        go_wp2_with fail
        clear q0 q1 q2 q3 q4
        refine (nextKey_any m K r kc ys _ I2.out hr).mono ?_
        by_cases hl : (i : Int) + 1 < cntV m
        · have hlen : i + 1 < (allKeys m).length := by have := HV.out; omega
          obtain ⟨n1, n2⟩ := next_more HM.out HK.out (List.getElem?_eq_getElem hlen)
          rw [n1]
          rintro e x3 ⟨K3, r3, kc3, rfl, o3, hr3, _, _, b3⟩
          have HK3 : Hid ((allKeys m)[i + 1]? = some (nextL m ys)) := Lib.hid (by rw [n2]; exact List.getElem?_eq_getElem hlen)
          have I3 := Lib.hid o3.ints
          have X3 := Lib.hid (X2.out.on b3)
          have C3 := Lib.hid (below_trans' C2.out b3)
          clear X2 I2 C2 o3 b3 n1 n2 hng HK
          go_wp2
          go_roundw
          case rel => exact ⟨i + 1, K3, r3, kc3, _, by go_num, rfl, HK3, I3, hr3, by omega, X3, C3⟩
          case measure => simp [intOf]; omega
        · have hlen : (allKeys m).length = i + 1 := by have := HV.out; omega
          obtain ⟨n1, n2⟩ := next_last HM.out HK.out hlen
          rw [n1]
          rintro e x3 ⟨K3, r3, kc3, rfl, o3, hr3, _, _, b3⟩
          have c3 := below_trans' C2.out b3
          have hq : ((i : Int) + 1 == cntV m) = true := by simp; omega
          clear X2 I2 C2 o3 b3 n1 n2 hng HK hl hlen hiV
          go_wp2
          go_ret
          exact ⟨rfl, c3⟩
  · have d0 : decide (4096 < (n : Int)) = true := by simp; omega
    go_enter Try.func3, Try.ntmps3
    go_wp2_with fail
    refine (big_any _ _ _ _).mono ?_
    rintro e w' ⟨rfl, rfl⟩
    rw [d0]
    go_wp2
    go_ret
    exact ⟨rfl, Below.refl _ _⟩

end Go.Proofs.Ytnblifpogbhjgaa
