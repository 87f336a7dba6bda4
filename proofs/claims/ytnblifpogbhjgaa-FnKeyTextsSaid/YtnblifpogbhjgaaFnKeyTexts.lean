/- The law of the keys' texts: its walk. -/
import Derived.Test.YtnblifpogbhjgaaDrawRK
import Derived.Test.YtnblifpogbhjgaaKRead
namespace Go.Proofs.Ytnblifpogbhjgaa
open Go.RowKit

theorem dig_back {v : Int} (h0 : 0 ≤ v) (h1 : v ≤ 7) : ((dig8 v.toNat).toNat : Int) - 48 = v := by
  obtain ⟨n, rfl⟩ := Int.eq_ofNat_of_zero_le h0
  have : ∀ n : Nat, n < 8 → ((dig8 n).toNat : Int) - 48 = n := by decide
  exact this n (by omega)
theorem byte_back {b : UInt8} (h0 : 0 ≤ (b.toNat : Int) - 48) (h1 : (b.toNat : Int) - 48 ≤ 7) : dig8 ((b.toNat : Int) - 48).toNat = b := by
  have h2 := dig_back h0 h1
  apply UInt8.toNat_inj.1
  omega
theorem bytes_text {xs : List Int} (h : allIn 0 7 xs = true) : bytesI (textK xs) = xs := by
  induction xs with
  | nil => rfl
  | cons v xs ih =>
    unfold allIn at h
    rw [List.all_cons, Bool.and_eq_true] at h
    have hv := inB_true.1 h.1
    show (((dig8 v.toNat).toNat : Int) - 48) :: bytesI (textK xs) = _
    rw [ih h.2, dig_back hv.1 hv.2]
theorem text_bytes {l : List UInt8} (h : allIn 0 7 (bytesI l) = true) : textK (bytesI l) = l := by
  induction l with
  | nil => rfl
  | cons b l ih =>
    unfold allIn at h
    have h' : (inB ((b.toNat : Int) - 48) 0 7 && (bytesI l).all (fun v => inB v 0 7)) = true := h
    rw [Bool.and_eq_true] at h'
    have hv := inB_true.1 h'.1
    show dig8 ((b.toNat : Int) - 48).toNat :: textK (bytesI l) = _
    rw [ih h'.2, byte_back hv.1 hv.2]
theorem key_sevens {m : Mk} {xs : List Int} (h : isKeyB m xs = true) : m.ok = true ∧ allIn 0 7 xs = true := by
  obtain ⟨hm, _, h3, _⟩ := key_facts h
  obtain ⟨m1, m2, m3, m4, _⟩ := Mk.ok_true hm
  exact ⟨hm, allIn_wide h3 (Int.le_refl _) (by omega)⟩
theorem kt_of_rk {m : Mk} {l : List UInt8} (h : rkE m l = 0) : ktE m (rkL m l) = 0 ∧ ktT m (rkL m l) = l := by
  rcases hm : m.ok with _ | _
  · rw [(rk_bad hm).2] at h; cases h
  rcases hk : isKeyB m (bytesI l) with _ | _
  · rw [(rk_no hm hk).2] at h; cases h
  rw [(rk_yes hm hk).1, (kt_yes hm hk).1, (kt_yes hm hk).2]
  exact ⟨rfl, text_bytes (key_sevens hk).2⟩
theorem rk_of_kt {m : Mk} {xs : List Int} (h : ktE m xs = 0) : rkE m (ktT m xs) = 0 ∧ rkL m (ktT m xs) = xs := by
  rcases hm : m.ok with _ | _
  · rw [(kt_bad hm).2] at h; cases h
  rcases hk : isKeyB m xs with _ | _
  · rw [(kt_no hm hk).2] at h; cases h
  rw [(kt_yes hm hk).1]
  have e := bytes_text (key_sevens hk).2
  have hk2 : isKeyB m (bytesI (textK xs)) = true := by rw [e]; exact hk
  rw [(rk_yes hm hk2).1, (rk_yes hm hk2).2]
  exact ⟨rfl, e⟩

set_option maxRecDepth 100000 in
set_option maxHeartbeats 8000000 in
theorem fnKeyTexts_any (A : Option Addr) (n c : Nat) (w : World) (h : Bts w w.heap.size A n) :
    Calls Try.prog 5 #[.slice A n c] w fun e w' => e = .returned (.bool true) ∧ Below w.heap.size w w' := by
  by_cases hn : n ≤ 4096
  · have d0 : decide (4096 < (n : Int)) = false := by simp; omega
    have HB := Lib.hid h
    clear h
    go_enter Try.func5, Try.ntmps5
    go_wp2_with fail
    refine (big_any _ _ _ _).mono ?_
    rintro e w' ⟨rfl, rfl⟩
    rw [d0]
    clear d0
    go_wp2_with fail
    refine (drawKeyText_any w.heap.size A n c w HB.out (Nat.le_refl _) hn).mono ?_
    rintro e w1 ⟨m, D, k, d, xs, rfl, hSm, hx1, hk, hkd, hd, b1⟩
    have y1 := Boxed.new w1 25 m
    have hx1 := hx1.alloc (Nat.le_refl _) (.cells #[.int .i64 m.C, .int .i64 m.D, .int .i64 m.S, .int .i64 m.M, .int .i64 m.L] 25)
    have b1 := b1.alloc b1.size (.cells #[.int .i64 m.C, .int .i64 m.D, .int .i64 m.S, .int .i64 m.M, .int .i64 m.L] 25)
    go_wp2_with fail
    refine (keyText_any m _ _ _ xs _ hx1 (by omega)).mono ?_
    rintro e w2 ⟨t, rfl, ht, hts, b2⟩
    have y2 := y1.on b2
    have hx2 := hx1.on b2
    have c2 := below_trans' b1 b2
    clear b1 b2 y1 hx1
    obtain ⟨q0, q1, q2, q3, q4⟩ := y2.cells
    go_wp2_with fail
    clear q0 q1 q2 q3 q4
    refine (specKeyText_any m _ _ _ xs _ hx2 (by omega) hkd hd).mono ?_
    rintro e w3 ⟨t', rfl, ht', hts', b3⟩
    obtain rfl : t = t' := text_eq (by unfold Txt at ht ht'; rw [ht, ht'])
    unfold Txt at ht
    have y3 := y2.on b3
    have hx3 := hx2.on b3
    have c3 := below_trans' c2 b3
    have HB3 := Lib.hid (HB.out.keep (w' := w3) (fun p hp => c3.cell hp))
    have s3 := c3.size
    clear c2 b3 y2 hx2 ht' hts'
    go_wp2_with fail
    refine (drawReadKey_any w.heap.size A n c w3 HB3.out s3 hn).mono ?_
    rintro e w4 ⟨m2, s, rfl, hSm2, hss, b4⟩
    have z4 := Boxed.new w4 25 m2
    have y4 := (y3.on b4).alloc (.cells #[.int .i64 m2.C, .int .i64 m2.D, .int .i64 m2.S, .int .i64 m2.M, .int .i64 m2.L] 25)
    have hx4 := (hx3.on b4).alloc (Nat.le_refl _) (.cells #[.int .i64 m2.C, .int .i64 m2.D, .int .i64 m2.S, .int .i64 m2.M, .int .i64 m2.L] 25)
    have c4 := (below_trans' c3 b4).alloc (below_trans' c3 b4).size (.cells #[.int .i64 m2.C, .int .i64 m2.D, .int .i64 m2.S, .int .i64 m2.M, .int .i64 m2.L] 25)
    clear c3 b4 y3 hx3 HB3 s3
    go_wp2_with fail
    refine (readKey_any m2 s _ hss).mono ?_
    rintro e w5 ⟨N, p, pc_, rfl, o5, hp, _, _, b5⟩
    have z5 := z4.on b5
    have y5 := y4.on b5
    have hx5 := hx4.on b5
    have c5 := below_trans' c4 b5
    have hl5 := o5.ints
    clear c4 b5 z4 y4 hx4 o5
    obtain ⟨q0, q1, q2, q3, q4⟩ := z5.cells
    go_wp2_with fail
    clear q0 q1 q2 q3 q4
    refine (specReadKey_any m2 s _ hss).mono ?_
    rintro e w6 ⟨N', p', pc', rfl, o6, hp', _, _, b6⟩
    have hr6 := o6.ints
    have hl6 := hl5.on b6
    obtain rfl : p = p' := by rw [← hl6.len, ← hr6.len]
    have z6 := z5.on b6
    have y6 := y5.on b6
    have hx6 := hx5.on b6
    have c6 := below_trans' c5 b6
    clear c5 b6 z5 y5 hx5 o6 hp' hl5
    have f1 : (ktE m xs != ktE m xs) = false := by simp
    have f2 : (rkE m2 s.data.toList != rkE m2 s.data.toList) = false := by simp
    go_wp2_with fail
    refine (likeInts_true _ _ _ _ _ _ _ hl6 hr6 hp).mono ?_
    rintro e w7 ⟨rfl, b7⟩
    have z7 := z6.on b7
    have y7 := y6.on b7
    have hx7 := hx6.on b7
    have hl7 := hl6.on b7
    have c7 := below_trans' c6 b7
    clear c6 z6 y6 hx6 hl6 hr6 b7
    by_cases hr0 : rkE m2 s.data.toList = 0
    · obtain ⟨g1, g2⟩ := kt_of_rk hr0
      have G1 := Lib.hid g1
      have G2 := Lib.hid g2
      have rb : (rkE m2 s.data.toList == 0) = true := by rw [hr0]; rfl
      obtain ⟨q0, q1, q2, q3, q4⟩ := z7.cells
      clear g1 g2
      go_wp2_with fail
      clear q0 q1 q2 q3 q4
      refine (keyText_any m2 _ _ _ _ _ hl7 (by omega)).mono ?_
      rw [G1.out, G2.out]
      rintro e w8 ⟨s', rfl, hs', _, b8⟩
      obtain rfl : s = s' := text_eq (by unfold Txt at hs'; rw [hs'])
      have y8 := y7.on b8
      have hx8 := hx7.on b8
      have c8 := below_trans' c7 b8
      clear y7 hx7 c7 b8 hl7 z7 hs'
      by_cases hk0 : ktE m xs = 0
      · obtain ⟨e1, e2⟩ := rk_of_kt hk0
        rw [← ht] at e1 e2
        have E1 := Lib.hid e1
        have E2 := Lib.hid e2
        have kb : (ktE m xs != 0) = false := by rw [hk0]; rfl
        obtain ⟨q0, q1, q2, q3, q4⟩ := y8.cells
        clear e1 e2
        go_wp2_with fail
        clear q0 q1 q2 q3 q4
        refine (readKey_any m t _ (by omega)).mono ?_
        rw [E1.out, E2.out]
        rintro e wz ⟨Nz, nz, cz, rfl, oz, hnz, _, _, bz⟩
        have hz := oz.ints
        have hxz := hx8.on bz
        obtain rfl : nz = k := by rw [← hz.len, ← hxz.len]
        have cz2 := below_trans' c8 bz
        clear oz bz
        go_wp2_with fail
        refine (likeInts_true _ _ _ _ _ xs _ hz hxz (by omega)).mono ?_
        rintro e wy ⟨rfl, by_⟩
        have cz3 := below_trans' cz2 by_
        go_wp2
        go_ret
        exact ⟨rfl, cz3⟩
      · have kb : (ktE m xs != 0) = true := by simpa using hk0
        go_wp2
        go_ret
        exact ⟨rfl, c8⟩
    · have rb : (rkE m2 s.data.toList == 0) = false := by simpa using hr0
      by_cases hk0 : ktE m xs = 0
      · obtain ⟨e1, e2⟩ := rk_of_kt hk0
        rw [← ht] at e1 e2
        have E1 := Lib.hid e1
        have E2 := Lib.hid e2
        have kb : (ktE m xs != 0) = false := by rw [hk0]; rfl
        obtain ⟨q0, q1, q2, q3, q4⟩ := y7.cells
        clear e1 e2
        go_wp2_with fail
        clear q0 q1 q2 q3 q4
        refine (readKey_any m t _ (by omega)).mono ?_
        rw [E1.out, E2.out]
        rintro e wz ⟨Nz, nz, cz, rfl, oz, hnz, _, _, bz⟩
        have hz := oz.ints
        have hxz := hx7.on bz
        obtain rfl : nz = k := by rw [← hz.len, ← hxz.len]
        have cz2 := below_trans' c7 bz
        clear oz bz
        go_wp2_with fail
        refine (likeInts_true _ _ _ _ _ xs _ hz hxz (by omega)).mono ?_
        rintro e wy ⟨rfl, by_⟩
        have cz3 := below_trans' cz2 by_
        go_wp2
        go_ret
        exact ⟨rfl, cz3⟩
      · have kb : (ktE m xs != 0) = true := by simpa using hk0
        go_wp2
        go_ret
        exact ⟨rfl, c7⟩
  · have d0 : decide (4096 < (n : Int)) = true := by simp; omega
    go_enter Try.func5, Try.ntmps5
    go_wp2_with fail
    refine (big_any _ _ _ _).mono ?_
    rintro e w' ⟨rfl, rfl⟩
    rw [d0]
    go_wp2
    go_ret
    exact ⟨rfl, Below.refl _ _⟩

end Go.Proofs.Ytnblifpogbhjgaa
