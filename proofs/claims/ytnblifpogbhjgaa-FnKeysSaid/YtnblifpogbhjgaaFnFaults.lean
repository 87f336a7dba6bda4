/- The law of faults: its walk. -/
import Derived.Test.YtnblifpogbhjgaaDrawFirst
import Derived.Test.YtnblifpogbhjgaaLike
import Derived.Test.YtnblifpogbhjgaaLFault
namespace Go.Proofs.Ytnblifpogbhjgaa
open Go.RowKit

theorem fk_next {m : Mk} {n : Int} {i : Nat} {ys ys' : List Int} (h : (fkL m n)[i]? = some ys) (h' : (fkL m n)[i + 1]? = some ys') : nextE m ys = 0 ∧ nextL m ys = ys' := by
  rcases hm : m.ok with _ | _
  · rw [(fk_bad hm).1] at h; cases h
  rcases hb : inB n 0 300 with _ | _
  · rw [(fk_no hm hb).1] at h; cases h
  rw [(fk_yes hm hb).1] at h h'
  have hi : i + 1 < n.toNat := by
    have := (List.getElem?_eq_some_iff.1 h').1
    rw [List.length_take] at this
    omega
  rw [List.getElem?_take, if_pos (by omega)] at h h'
  obtain ⟨hl, e⟩ := List.getElem?_eq_some_iff.1 h
  have hsplit : allKeys m = (allKeys m).take i ++ ys :: (allKeys m).drop (i + 1) := by
    rw [← e, ← List.drop_eq_getElem_cons hl, List.take_append_drop]
  have hn := next_of hm hsplit
  have hmem : ys ∈ allKeys m := by rw [hsplit]; simp
  obtain ⟨f1, f2, f3, f4, f5, f6⟩ := key_facts (all_are_keys hm hmem)
  obtain ⟨e1, e2⟩ := next_yes hm (xs := ys) (ys := ys') (cuts_yes (key_len hmem hm) (by assumption)) (by rw [hn, List.head?_drop]; exact h')
  exact ⟨e2, e1⟩
theorem fk_few {m : Mk} {n : Int} (h : fkE m n = 0) : ((fkL m n).length : Int) ≤ n := by
  rcases hm : m.ok with _ | _
  · rw [(fk_bad hm).2] at h; cases h
  rcases hb : inB n 0 300 with _ | _
  · rw [(fk_no hm hb).2] at h; cases h
  rw [(fk_yes hm hb).1, List.length_take]
  have := (inB_true.1 hb).1
  omega
theorem cell_plain {w : World} {ad : Addr} {j : Nat} {v : Value} (h : w.cell? (ad.add (j + 1)) = some v) : w.cell? { block := ad.block, off := ad.off + (j + 1) } = some v := by
  simpa [Addr.add] using h
theorem fault_key (m : Mk) (xs : List Int) : (kfE m = 1 ∧ isKeyB m xs = false) ∨ (kfE m = 0 ∧ isKeyB m xs = (kfV m xs == 0)) := by
  unfold kfE kfV isKeyB
  cases m.ok <;> simp

set_option maxRecDepth 100000 in
set_option maxHeartbeats 8000000 in
theorem fnFaults_any (A : Option Addr) (n c : Nat) (w : World) (h : Bts w w.heap.size A n) :
    Calls Try.prog 4 #[.slice A n c] w fun e w' => e = .returned (.bool true) ∧ Below w.heap.size w w' := by
  by_cases hn : n ≤ 4096
  · have d0 : decide (4096 < (n : Int)) = false := by simp; omega
    have HB := Lib.hid h
    clear h
    go_enter Try.func4, Try.ntmps4
    go_wp2_with fail
    refine (big_any _ _ _ _).mono ?_
    rintro e w' ⟨rfl, rfl⟩
    rw [d0]
    clear d0
    go_wp2_with fail
    refine (drawKeyFault_any w.heap.size A n c w HB.out (Nat.le_refl _) hn).mono ?_
    rintro e w1 ⟨m, D, k, d, xs, rfl, hSm, hx1, hk, hkd, hd, b1⟩
    have y1 := Boxed.new w1 25 m
    have hx1 := hx1.alloc (Nat.le_refl _) (.cells #[.int .i64 m.C, .int .i64 m.D, .int .i64 m.S, .int .i64 m.M, .int .i64 m.L] 25)
    have b1 := b1.alloc b1.size (.cells #[.int .i64 m.C, .int .i64 m.D, .int .i64 m.S, .int .i64 m.M, .int .i64 m.L] 25)
    go_wp2_with fail
    refine (keyFault_any m _ _ _ xs _ hx1 (by omega)).mono ?_
    rintro e w2 ⟨rfl, b2⟩
    have y2 := y1.on b2
    have hx2 := hx1.on b2
    have c2 := below_trans' b1 b2
    clear b1 b2 y1 hx1
    obtain ⟨q0, q1, q2, q3, q4⟩ := y2.cells
    go_wp2_with fail
    clear q0 q1 q2 q3 q4
    refine (specKeyFault_any m _ _ _ xs _ hx2 (by omega) hkd hd).mono ?_
    rintro e w3 ⟨rfl, b3⟩
    have y3 := y2.on b3
    have hx3 := hx2.on b3
    have c3 := below_trans' c2 b3
    have HB3 := Lib.hid (HB.out.keep (w' := w3) (fun p hp => c3.cell hp))
    have s3 := c3.size
    clear c2 b3 y2 hx2
    go_wp2_with fail
    refine (drawFirstKeys_any w.heap.size A n c w3 HB3.out s3 hn).mono ?_
    rintro e w4 ⟨m2, k2, rfl, hSm2, b4⟩
    have z4 := Boxed.new w4 25 m2
    have y4 := (y3.on b4).alloc (.cells #[.int .i64 m2.C, .int .i64 m2.D, .int .i64 m2.S, .int .i64 m2.M, .int .i64 m2.L] 25)
    have hx4 := (hx3.on b4).alloc (Nat.le_refl _) (.cells #[.int .i64 m2.C, .int .i64 m2.D, .int .i64 m2.S, .int .i64 m2.M, .int .i64 m2.L] 25)
    have c4 := (below_trans' c3 b4).alloc (below_trans' c3 b4).size (.cells #[.int .i64 m2.C, .int .i64 m2.D, .int .i64 m2.S, .int .i64 m2.M, .int .i64 m2.L] 25)
    have y3l := y3.lt
    clear c3 b4 y3 hx3 HB3 s3
    go_wp2_with fail
    refine (firstKeys_any m2 k2 _).mono ?_
    rintro e w5 ⟨V, p, cc, gs, rfl, p5, hp, b5⟩
    have hpw : p = 0 ∨ m2.C.toNat ≤ 6 := by have := fk_len (m := m2) (n := k2); rw [p5.len] at this; exact this
    have z5 := z4.on b5
    have y5 := y4.on b5
    have hx5 := hx4.on b5
    have c5 := below_trans' c4 b5
    have P5 := Lib.hid p5
    clear c4 b5 z4 y4 hx4 p5
    obtain ⟨q0, q1, q2, q3, q4⟩ := z5.cells
    go_wp2_with fail
    clear q0 q1 q2 q3 q4
    refine (specFirstKeys_any m2 k2 _).mono ?_
    rintro e w6 ⟨V', p', cc', gs', rfl, p6, hp', b6⟩
    obtain rfl : p = p' := by rw [← P5.out.len, ← p6.len]
    have z6 := z5.on b6
    have y6 := y5.on b6
    have hx6 := hx5.on b6
    have c6 := below_trans' c5 b6
    have P6 := Lib.hid (P5.out.on b6)
    clear c5 b6 z5 y5 hx5 P5 hp'
    have f1 : (kfE m != kfE m) = false := by simp
    have f2 : (kfV m xs != kfV m xs) = false := by simp
    have f3 : (fkE m2 k2 != fkE m2 k2) = false := by simp
    go_wp2_with fail
    refine (likeLists_true _ _ _ _ _ _ _ _ _ _ _ _ P6.out p6 (by omega) hpw).mono ?_
    rintro e w7 ⟨rfl, q, rfl⟩
    have z7 := z6.drewN q
    have y7 := y6.drewN q
    have hx7 : Ints (w6.drewN q) (w6.drewN q).heap.size D k xs := ints_drewN hx6 q
    have c7 := below_drewN c6 q
    have P7 := Lib.hid (P6.out.drewN q)
    clear c6 z6 y6 hx6 P6 p6
    generalize w6.drewN q = w7 at *
    obtain ⟨q0, q1, q2, q3, q4⟩ := y7.cells
    rcases fault_key m xs with ⟨g1, g2⟩ | ⟨g1, g2⟩
    all_goals
      go_wp2_with fail
      clear q0 q1 q2 q3 q4
      refine (isKey_any m _ _ _ xs _ hx7 (by omega)).mono ?_
      rw [g2]
      rintro e w8 ⟨rfl, b8⟩
      have z8 := z7.on b8
      have c8 := below_trans' c7 b8
      have P8 := Lib.hid (P7.out.on b8)
      have f4 : ((kfV m xs == 0) != (kfV m xs == 0)) = false := by simp
      clear c7 z7 y7 hx7 P7 b8
      by_cases hf : fkE m2 k2 = 0
      · have hple : (p : Int) ≤ k2 := by have := fk_few hf; rw [P8.out.len] at this; exact this
        go_wp2
        clear f1 f2 f3 f4
        go_loopw [15] (fun z wr => ∃ i : Nat, z = .int .i64 ((i : Int) + 1) ∧ (i + 1 ≤ p ∨ i = 0) ∧ Below w8.heap.size w8 wr) (fun z _ => 400 - (intOf z).toNat)
        case atStart => exact ⟨0, by go_num, by omega, Below.refl _ _⟩
        case round =>
          obtain ⟨i, rfl, hi, hb⟩ := hrel
          by_cases hlt : i + 1 < p
          · have hz := z8.below hb z8.lt
            have hP := P8.out.on hb
            obtain ⟨ad, a, ys, rfl, hga, hy, hc, hs⟩ := hP.at_ (k := i) (by omega)
            obtain ⟨ad', a', ys', e', hga', hy', hc', hs'⟩ := hP.at_ (k := i + 1) hlt
            obtain rfl : ad = ad' := by injection e'
            clear e'
            obtain ⟨n1, n2⟩ := fk_next hy hy'
            have N1 := Lib.hid n1
            have N2 := Lib.hid n2
            have HI9 := Lib.hid (show Ints wr.drew wr.drew.heap.size (some a.1) m2.C.toNat ys from Own.ints hs)
            have HB := Lib.hid hb
            have v1 : IntKind.i64.wrap ((i : Int) + 1 - 1) = (i : Int) := by rw [IntKind.wrap_i64]; omega
            have v2 : IntKind.i64.wrap (i : Int) = (i : Int) := by rw [IntKind.wrap_i64]; omega
            have i0 : (0 : Int) ≤ (i : Int) := by omega
            have i1 : (i : Int) < (p : Int) := by omega
            have i2 : (i : Int) + 1 < (p : Int) := by omega
            obtain ⟨q0, q1, q2, q3, q4⟩ := hz.cells
            have hzl := hz.lt
            have hadl : ad.block < wr.heap.size := by have := World.block_lt_of_cell? _ _ hc; rwa [block_of_add] at this
            have hp6 : m2.C.toNat ≤ 6 := by omega
            have HY' := Lib.hid hy'
            clear n1 n2 hy hy' hga hga' hs hs' hP hz hb
            go_wp2
            go_region_held3 (fun w' => w'.cell? ⟨w4.heap.size, 0, none⟩ = some (.int .i64 m2.C) ∧ w'.cell? ⟨w4.heap.size, 1, none⟩ = some (.int .i64 m2.D) ∧ w'.cell? ⟨w4.heap.size, 2, none⟩ = some (.int .i64 m2.S) ∧ w'.cell? ⟨w4.heap.size, 3, none⟩ = some (.int .i64 m2.M) ∧ w'.cell? ⟨w4.heap.size, 4, none⟩ = some (.int .i64 m2.L) ∧ w'.cell? (ad.add i) = some (.slice (some a.1) m2.C.toNat a.2))
              (first
                | go_keep
                | with_reducible exact HKP)
              (first
                | (go_at_call 20; refine (nextKey_any m2 _ _ _ ys _ HI9.out (by omega)).mono ?_; rw [N1.out, N2.out]; rintro e w9 ⟨N, t, tc, rfl, o9, ht, ht2, ht3, b9⟩; have HKP : w9.cell? ⟨w4.heap.size, 0, none⟩ = some (.int .i64 m2.C) ∧ w9.cell? ⟨w4.heap.size, 1, none⟩ = some (.int .i64 m2.D) ∧ w9.cell? ⟨w4.heap.size, 2, none⟩ = some (.int .i64 m2.S) ∧ w9.cell? ⟨w4.heap.size, 3, none⟩ = some (.int .i64 m2.M) ∧ w9.cell? ⟨w4.heap.size, 4, none⟩ = some (.int .i64 m2.L) ∧ w9.cell? (ad.add i) = some (.slice (some a.1) m2.C.toNat a.2) := ⟨(b9.cell (p := ⟨w4.heap.size, 0, none⟩) hzl).trans q0, (b9.cell (p := ⟨w4.heap.size, 1, none⟩) hzl).trans q1, (b9.cell (p := ⟨w4.heap.size, 2, none⟩) hzl).trans q2, (b9.cell (p := ⟨w4.heap.size, 3, none⟩) hzl).trans q3, (b9.cell (p := ⟨w4.heap.size, 4, none⟩) hzl).trans q4, (b9.cell (p := ad.add i) (by rw [block_of_add]; exact hadl)).trans hc⟩))
            all_goals
              have hb9 := below_trans' HB.out.drew b9
              obtain ⟨ad2, a2, ys2, e2, hga2, hy2, hc2, hs2⟩ := (P8.out.on hb9).at_ (k := i + 1) hlt
              obtain rfl : ad = ad2 := by injection e2
              obtain rfl : ys' = ys2 := by have := HY'.out.symm.trans hy2; injection this
              clear e2
              have hi9 := o9.ints
              have hi2 := Own.ints hs2
              have ht' : t = m2.C.toNat := by rw [← hi9.len, ← hi2.len]
              subst ht'
              have i3 : (0 : Int) ≤ (i : Int) + 1 := by omega
              have hc3 := cell_plain hc2
              clear q0 q1 q2 q3 q4 hc hc' HKP b9 v1 v2 o9 hs2
              go_wp2_with fail
              refine (likeInts_true _ _ _ _ _ ys' _ hi9 hi2 (by omega)).mono ?_
              rintro e w10 ⟨rfl, b10⟩
              have hb10 := below_trans' hb9 b10
              clear hc2 hc3 hb9 b10 hi9 hi2
              go_wp2
              go_roundw
              case rel => exact ⟨i + 1, by go_num, by omega, hb10⟩
              case measure => simp [intOf]; omega
          · have hb8 := below_trans' c8 hb
            go_wp2
            go_ret
            exact ⟨rfl, hb8⟩
      · have hfb : (fkE m2 k2 != 0) = true := by simpa using hf
        go_wp2
        go_ret
        exact ⟨rfl, c8⟩
  · have d0 : decide (4096 < (n : Int)) = true := by simp; omega
    go_enter Try.func4, Try.ntmps4
    go_wp2_with fail
    refine (big_any _ _ _ _).mono ?_
    rintro e w' ⟨rfl, rfl⟩
    rw [d0]
    go_wp2
    go_ret
    exact ⟨rfl, Below.refl _ _⟩

end Go.Proofs.Ytnblifpogbhjgaa
