/- The law of neighbours: its walk. -/
import Derived.Test.YtbadahnhlehidaaDrawKN
import Derived.Test.YtbadahnhlehidaaDrawNear
import Derived.Test.YtbadahnhlehidaaSame
import Derived.Test.YtbadahnhlehidaaSNearest
import Derived.Test.YtbadahnhlehidaaCount
namespace Go.Proofs.Ytbadahnhlehidaa
open Go Go.RowKit

/-- the keys whose difference to a list is below a number -/
def upN (m : Mk) (xs : List Int) (i : Nat) : Nat := ((allKeys m).filter (fun y => decide (diffI xs y < (i : Int)))).length
theorem filter_step (f : List Int → Int) (i : Int) : ∀ l : List (List Int), (l.filter (fun y => decide (f y < i + 1))).length = (l.filter (fun y => decide (f y < i))).length + (l.filter (fun y => decide (f y = i))).length
  | [] => rfl
  | y :: l => by
    have ih := filter_step f i l
    rcases Int.lt_trichotomy (f y) i with h | h | h
    · rw [List.filter_cons_of_pos (by simp; omega), List.filter_cons_of_pos (by simp; omega), List.filter_cons_of_neg (by simp; omega), List.length_cons, List.length_cons, ih]; omega
    · rw [List.filter_cons_of_pos (by simp; omega), List.filter_cons_of_neg (by simp; omega), List.filter_cons_of_pos (by simp; omega), List.length_cons, List.length_cons, ih]; omega
    · rw [List.filter_cons_of_neg (by simp; omega), List.filter_cons_of_neg (by simp; omega), List.filter_cons_of_neg (by simp; omega), ih]
theorem up_step (m : Mk) (xs : List Int) (i : Nat) : upN m xs (i + 1) = upN m xs i + nearN m xs m.C.toNat [] (i : Int) := by
  unfold upN nearN
  have e : (fun y => nearP xs ([] : List Int).length (i : Int) y) = (fun y => decide (diffI xs y = (i : Int))) := by
    funext y; exact nearP_diff xs y i
  have e2 : nearP xs ([] : List Int).length (i : Int) = (fun y => decide (diffI xs y = (i : Int))) := e
  rw [e2]
  exact filter_step (diffI xs) i (allKeys m)
theorem up_zero {m : Mk} {xs : List Int} : upN m xs 0 = 0 := by
  unfold upN
  rw [List.length_eq_zero_iff, List.filter_eq_nil_iff]
  intro y _ h
  have := (diffTo_in xs y xs.length).1
  unfold diffI at h
  simp at h
  omega
theorem up_small {m : Mk} {xs : List Int} (hm : m.ok = true) (i : Nat) : upN m xs i ≤ 262144 := by
  obtain ⟨m1, m2, m3, m4, _⟩ := Mk.ok_true hm
  exact Nat.le_trans (List.length_filter_le _ _) (Nat.le_trans (keys_count m4 m.C.toNat []) (pow8 (by omega)))
theorem up_all {m : Mk} {xs : List Int} {i : Nat} (h : xs.length < i) : upN m xs i = (allKeys m).length := by
  unfold upN
  rw [List.filter_eq_self.2]
  intro y _
  have := (diffTo_in xs y xs.length).2
  unfold diffI
  simp
  omega
theorem kn_facts {m : Mk} {xs : List Int} {z : Int} (h : knE m xs z = 0) : ktE m xs = 0 ∧ (xs.length : Int) = m.C ∧ m.ok = true := by
  have hk : ktE m xs = 0 := by
    rcases Classical.em (ktE m xs = 0) with h0 | h0
    · exact h0
    · rw [(kn_bad h0).1] at h; exact h
  obtain ⟨h1, h2⟩ := kt_key hk
  exact ⟨hk, (key_facts h2).2.1, h1⟩
theorem fold_ne (key : List Int) : ∀ (l : List (List Int)) (b : Option (List Int)) (z : List Int), l.foldl (nearStep key) b = some z → b = some z ∨ z ≠ key
  | [], b, z, h => .inl h
  | y :: l, b, z, h => by
    rw [List.foldl_cons] at h
    rcases fold_ne key l _ z h with h1 | h1
    · unfold nearStep at h1
      split at h1
      · next hb =>
        injection h1 with h1
        subst h1
        unfold better at hb
        rw [Bool.and_eq_true, decide_eq_true_eq] at hb
        exact .inr hb.1
      · exact .inl h1
    · exact .inr h1
theorem nk_laws {m : Mk} {xs : List Int} (h : ktE m xs = 0) : (nkL m xs).length = xs.length ∧ nkL m xs ≠ xs := by
  obtain ⟨hm, hk⟩ := kt_key h
  obtain ⟨z, hz⟩ := nearest_is hk
  rw [nk_yes h hz]
  unfold nearest at hz
  have h1 : z ≠ xs := by
    rcases fold_ne xs _ _ z hz with h1 | h1
    · cases h1
    · exact h1
  have h2 : z ∈ allKeys m := by
    rcases fold_mem xs _ _ z hz with h1 | h1
    · cases h1
    · exact h1
  have l1 := key_len h2 hm
  have l2 := (key_facts hk).2.1
  exact ⟨by omega, h1⟩
theorem rkv_laws {m : Mk} {xs : List Int} (h : ktE m xs = 0) : ktE m (rkvL m xs) = 0 ∧ rkvL m (rkvL m xs) = xs ∧ isKeyB m (rkvL m xs) = true := by
  obtain ⟨hm, hk⟩ := kt_key h
  rw [rkv_yes h]
  have h2 := rev_key hk
  have h0 : ktE m xs.reverse = 0 := (kt_yes hm h2).2
  exact ⟨h0, by rw [rkv_yes h0, List.reverse_reverse], h2⟩

set_option maxRecDepth 100000 in
set_option maxHeartbeats 16000000 in
theorem fnNeighbours_any (A : Option Addr) (n c : Nat) (w : World) (h : Bts w w.heap.size A n) :
    Calls Try.prog 20 #[.slice A n c] w fun e w' => e = .returned (.bool true) ∧ Below w.heap.size w w' := by
  by_cases hn : n ≤ 4096
  · have d0 : decide (4096 < (n : Int)) = false := by simp; omega
    have HB := Lib.hid h
    clear h
    go_enter Try.func20, Try.ntmps20
    go_wp2_with fail
    refine (big_any _ _ _ _).mono ?_
    rintro e w' ⟨rfl, rfl⟩
    rw [d0]
    clear d0
    go_wp2_with fail
    refine (drawKeysNear_any w.heap.size A n c w HB.out (Nat.le_refl _) hn).mono ?_
    rintro e w1 ⟨m, D, k, d, xs, z, rfl, hSm, ox, hk, hkd, hd, b1⟩
    have y1 := Boxed.new w1 29 m
    have hx1 := ox.ints.alloc (Nat.le_refl _) (.cells #[.int .i64 m.C, .int .i64 m.D, .int .i64 m.S, .int .i64 m.M, .int .i64 m.L] 29)
    have b1 := b1.alloc b1.size (.cells #[.int .i64 m.C, .int .i64 m.D, .int .i64 m.S, .int .i64 m.M, .int .i64 m.L] 29)
    clear ox
    go_wp2_with fail
    refine (keysNear_any m _ _ _ xs z _ hx1 (by omega)).mono ?_
    rintro e w2 ⟨rfl, b2⟩
    have y2 := y1.on b2
    have hx2 := hx1.on b2
    have c2 := below_trans' b1 b2
    clear b1 b2 y1 hx1
    obtain ⟨q0, q1, q2, q3, q4⟩ := y2.cells
    go_wp2_with fail
    clear q0 q1 q2 q3 q4
    refine (specKeysNear_any m _ _ _ xs z _ hx2 (by omega) hkd hd).mono ?_
    rintro e w3 ⟨rfl, b3⟩
    have y3 := y2.on b3
    have hx3 := hx2.on b3
    have c3 := below_trans' c2 b3
    have HB3 := Lib.hid (HB.out.keep (w' := w3) (fun p hp => c3.cell hp))
    have s3 := c3.size
    clear c2 b3 y2 hx2 hkd hd
    go_wp2_with fail
    refine (drawNearestKey_any w.heap.size A n c w3 HB3.out s3 hn).mono ?_
    rintro e w4 ⟨m2, F, p, pc_, zs, rfl, hSm2, oz, hp, hpc, hpm, b4⟩
    have z4 := Boxed.new w4 29 m2
    have hz4 := oz.ints.alloc (Nat.le_refl _) (.cells #[.int .i64 m2.C, .int .i64 m2.D, .int .i64 m2.S, .int .i64 m2.M, .int .i64 m2.L] 29)
    have y4 := (y3.on b4).alloc (.cells #[.int .i64 m2.C, .int .i64 m2.D, .int .i64 m2.S, .int .i64 m2.M, .int .i64 m2.L] 29)
    have hx4 := (hx3.on b4).alloc (Nat.le_refl _) (.cells #[.int .i64 m2.C, .int .i64 m2.D, .int .i64 m2.S, .int .i64 m2.M, .int .i64 m2.L] 29)
    have c4 := (below_trans' c3 b4).alloc (below_trans' c3 b4).size (.cells #[.int .i64 m2.C, .int .i64 m2.D, .int .i64 m2.S, .int .i64 m2.M, .int .i64 m2.L] 29)
    clear c3 b4 y3 hx3 HB3 s3 oz
    go_wp2_with fail
    refine (nearestKey_any m2 _ _ _ zs _ hz4 (by omega)).mono ?_
    rintro e w5 ⟨N, t, tc, rfl, o5, ht, _, _, b5⟩
    have z5 := z4.on b5
    have hz5 := hz4.on b5
    have y5 := y4.on b5
    have hx5 := hx4.on b5
    have c5 := below_trans' c4 b5
    have hl5 := o5.ints
    clear c4 b5 z4 hz4 y4 hx4 o5
    obtain ⟨q0, q1, q2, q3, q4⟩ := z5.cells
    go_wp2_with fail
    clear q0 q1 q2 q3 q4
    refine (specNearestKey_any m2 _ _ _ zs _ hz5 (by omega) hpc hpm).mono ?_
    rintro e w6 ⟨N', t', tc', rfl, o6, ht', _, _, b6⟩
    have hr6 := o6.ints
    have hl6 := hl5.on b6
    obtain rfl : t = t' := by rw [← hl6.len, ← hr6.len]
    have hz6 := hz5.on b6
    have y6 := y5.on b6
    have hx6 := hx5.on b6
    have c6 := below_trans' c5 b6
    have HB6 := Lib.hid (HB.out.keep (w' := w6) (fun p hp => c6.cell hp))
    have s6 := c6.size
    clear c5 b6 z5 hz5 y5 hx5 o6 ht' hl5 hpc hpm
    go_wp2_with fail
    refine (drawReverseKey_any w.heap.size A n c w6 HB6.out s6 hn).mono ?_
    rintro e w7 ⟨m3, G, u, uc_, us, rfl, hSm3, ou, hu, huc, hum, b7⟩
    have u7 := Boxed.new w7 29 m3
    have hu7 := ou.ints.alloc (Nat.le_refl _) (.cells #[.int .i64 m3.C, .int .i64 m3.D, .int .i64 m3.S, .int .i64 m3.M, .int .i64 m3.L] 29)
    have hz7 := (hz6.on b7).alloc (Nat.le_refl _) (.cells #[.int .i64 m3.C, .int .i64 m3.D, .int .i64 m3.S, .int .i64 m3.M, .int .i64 m3.L] 29)
    have hl7 := (hl6.on b7).alloc (Nat.le_refl _) (.cells #[.int .i64 m3.C, .int .i64 m3.D, .int .i64 m3.S, .int .i64 m3.M, .int .i64 m3.L] 29)
    have hr7 := (hr6.on b7).alloc (Nat.le_refl _) (.cells #[.int .i64 m3.C, .int .i64 m3.D, .int .i64 m3.S, .int .i64 m3.M, .int .i64 m3.L] 29)
    have y7 := (y6.on b7).alloc (.cells #[.int .i64 m3.C, .int .i64 m3.D, .int .i64 m3.S, .int .i64 m3.M, .int .i64 m3.L] 29)
    have hx7 := (hx6.on b7).alloc (Nat.le_refl _) (.cells #[.int .i64 m3.C, .int .i64 m3.D, .int .i64 m3.S, .int .i64 m3.M, .int .i64 m3.L] 29)
    have c7 := (below_trans' c6 b7).alloc (below_trans' c6 b7).size (.cells #[.int .i64 m3.C, .int .i64 m3.D, .int .i64 m3.S, .int .i64 m3.M, .int .i64 m3.L] 29)
    clear c6 b7 y6 hx6 hz6 hl6 hr6 HB6 s6 ou
    go_wp2_with fail
    refine (reverseKey_any m3 _ _ _ us _ hu7 (by omega)).mono ?_
    rintro e w8 ⟨R, v, vc, rfl, o8, hv, _, _, b8⟩
    have u8 := u7.on b8
    have hu8 := hu7.on b8
    have hz8 := hz7.on b8
    have hl8 := hl7.on b8
    have hr8 := hr7.on b8
    have y8 := y7.on b8
    have hx8 := hx7.on b8
    have c8 := below_trans' c7 b8
    have ra8 := o8.ints
    clear c7 b8 u7 hu7 hz7 hl7 hr7 y7 hx7 o8
    obtain ⟨q0, q1, q2, q3, q4⟩ := u8.cells
    go_wp2_with fail
    clear q0 q1 q2 q3 q4
    refine (specReverseKey_any m3 _ _ _ us _ hu8 (by omega) huc hum).mono ?_
    rintro e w9 ⟨R', v', vc', rfl, o9, hv', _, _, b9⟩
    have rb9 := o9.ints
    have ra9 := ra8.on b9
    obtain rfl : v = v' := by rw [← ra9.len, ← rb9.len]
    have u9 := u8.on b9
    have hu9 := hu8.on b9
    have hz9 := hz8.on b9
    have hl9 := hl8.on b9
    have hr9 := hr8.on b9
    have y9 := y8.on b9
    have hx9 := hx8.on b9
    have c9 := below_trans' c8 b9
    clear c8 b9 u8 hu8 hz8 hl8 hr8 y8 hx8 ra8 o9 hv' huc hum
    have f1 : (knE m xs z != knE m xs z) = false := by simp
    have f2 : (knV m xs z != knV m xs z) = false := by simp
    have f3 : (ktE m2 zs != ktE m2 zs) = false := by simp
    have f4 : (ktE m3 us != ktE m3 us) = false := by simp
    have f5 : True := trivial
    have f6 : True := trivial
    go_wp2_with fail
    refine (likeInts_true _ _ _ _ _ _ _ hl9 hr9 ht).mono ?_
    rintro e w10 ⟨rfl, b10⟩
    have u10 := u9.on b10
    have hu10 := hu9.on b10
    have hz10 := hz9.on b10
    have hl10 := hl9.on b10
    have y10 := y9.on b10
    have hx10 := hx9.on b10
    have c10 := below_trans' c9 b10
    have ra10 := ra9.on b10
    have rb10 := rb9.on b10
    clear c9 b10 u9 hu9 hz9 hl9 hr9 y9 hx9 ra9 rb9
    go_wp2_with fail
    refine (likeInts_true _ _ _ _ _ _ _ ra10 rb10 hv).mono ?_
    rintro e w11 ⟨rfl, b11⟩
    have u11 := u10.on b11
    have hu11 := hu10.on b11
    have hz11 := hz10.on b11
    have hl11 := hl10.on b11
    have y11 := y10.on b11
    have hx11 := hx10.on b11
    have c11 := below_trans' c10 b11
    have ra11 := ra10.on b11
    clear c10 b11 u10 hu10 hz10 hl10 y10 hx10 ra10 rb10
    by_cases hr0 : ktE m3 us = 0
    · have RL := Lib.hid (rkv_laws hr0)
      have rb : (ktE m3 us == 0) = true := by rw [hr0]; rfl
      obtain ⟨q0, q1, q2, q3, q4⟩ := u11.cells
      go_wp2_with fail
      clear q0 q1 q2 q3 q4
      refine (reverseKey_any m3 _ _ _ _ _ ra11 hv).mono ?_
      rw [RL.out.1, RL.out.2.1]
      rintro e w12 ⟨S, x, xc, rfl, o12, hx_, _, _, b12⟩
      have hs12 := o12.ints
      have u12 := u11.on b12
      have hu12 := hu11.on b12
      have hz12 := hz11.on b12
      have hl12 := hl11.on b12
      have y12 := y11.on b12
      have hx12 := hx11.on b12
      have c12 := below_trans' c11 b12
      have ra12 := ra11.on b12
      obtain rfl : x = u := by rw [← hs12.len, ← hu12.len]
      clear c11 b12 u11 hu11 hz11 hl11 y11 hx11 ra11 o12
      go_wp2_with fail
      refine (likeInts_true _ _ _ _ _ us _ hs12 hu12 hx_).mono ?_
      rintro e w13 ⟨rfl, b13⟩
      have u13 := u12.on b13
      have hz13 := hz12.on b13
      have hl13 := hl12.on b13
      have y13 := y12.on b13
      have hx13 := hx12.on b13
      have c13 := below_trans' c12 b13
      have ra13 := ra12.on b13
      clear c12 b13 u12 hu12 hz12 hl12 y12 hx12 ra12 hs12
      obtain ⟨q0, q1, q2, q3, q4⟩ := u13.cells
      go_wp2_with fail
      clear q0 q1 q2 q3 q4
      refine (isKey_any m3 _ _ _ _ _ ra13 hv).mono ?_
      rw [RL.out.2.2]
      rintro e w14 ⟨rfl, b14⟩
      have hz14 := hz13.on b14
      have hl14 := hl13.on b14
      have y14 := y13.on b14
      have hx14 := hx13.on b14
      have c14 := below_trans' c13 b14
      clear c13 b14 u13 hz13 hl13 y13 hx13 ra13 RL
      by_cases hm0 : ktE m2 zs = 0
      · obtain ⟨g1, g2⟩ := nk_laws hm0
        obtain rfl : t = p := by rw [← hl14.len, ← hz14.len]; exact g1
        have G2 := Lib.hid (decide_eq_false g2)
        have mb : (ktE m2 zs == 0) = true := by rw [hm0]; rfl
        clear g1 g2
        go_wp2_with fail
        refine (likeInts_any _ _ _ _ _ (nkL m2 zs) zs _ hl14 hz14 (by omega)).mono ?_
        rw [G2.out]
        rintro e wN ⟨rfl, qN, hqN⟩
        have yN : Boxed wN w1.heap.size 29 m := by rw [hqN]; exact y14
        have hxN : Ints wN wN.heap.size D k xs := by rw [hqN]; exact ints_drewN hx14 qN
        have cN : Below w.heap.size w wN := by rw [hqN]; exact below_drewN c14 qN
        clear y14 hx14 hz14 hl14 c14 hqN
        by_cases hk0 : knE m xs z = 0
        · obtain ⟨hkt, hlen, hmo⟩ := kn_facts hk0
          have HK := Lib.hid hkt
          have HM := Lib.hid hmo
          have HL := Lib.hid hlen
          have kb : (knE m xs z != 0) = false := by rw [hk0]; rfl
          have cl : 1 ≤ m.C ∧ m.C ≤ 7 := ⟨hSm.1, hSm.2.1⟩
          have YL := yN.lt
          clear hkt hlen hmo
          go_wp2
          clear f1 f2 f3 f4 f5 f6
          go_loopw [24, 25] (fun tot dd wr => ∃ i : Nat, (i : Int) ≤ m.C + 1 ∧ dd = .int .i64 (i : Int) ∧ tot = .int .i64 (upN m xs i : Int) ∧ Hid (Below wN.heap.size wN wr)) (fun _ dd _ => 10 - (intOf dd).toNat)
          case atStart => exact ⟨0, by omega, by go_num, by rw [up_zero]; rfl, Lib.hid (Below.refl _ _)⟩
          case round =>
            obtain ⟨i, hi, rfl, rfl, hb⟩ := hrel
            have hy := yN.below hb.out YL
            have hxi := hxN.on hb.out
            obtain ⟨q0, q1, q2, q3, q4⟩ := hy.cells
            have ub := up_small (m := m) (xs := xs) HM.out (i + 1)
            by_cases hlt : (i : Int) ≤ m.C
            · have hd : decide ((i : Int) ≤ m.C) = true := decide_eq_true hlt
              obtain ⟨n1, n2⟩ := kn_yes (z := (i : Int)) HK.out (inB_true.2 ⟨by omega, hlt⟩)
              have N1 := Lib.hid n1
              have N2 := Lib.hid n2
              have us := up_step m xs i
              have v1 : IntKind.i64.wrap ((upN m xs i : Int) + (nearN m xs m.C.toNat [] (i : Int) : Int)) = (upN m xs (i + 1) : Int) := by rw [IntKind.wrap_i64]; omega
              clear n1 n2
              go_wp2_with fail
              clear q0 q1 q2 q3 q4
              refine (keysNear_any m _ _ _ xs (i : Int) _ hxi (by omega)).mono ?_
              rw [N1.out, N2.out]
              rintro e wn ⟨rfl, bn⟩
              have HB2 := Lib.hid (below_trans' hb.out bn)
              clear hy hxi bn hb
              go_wp2
              go_roundw
              case rel => exact ⟨i + 1, by omega, by go_num, by rw [us, Int.natCast_add], HB2⟩
              case measure => simp [intOf]; omega
            · have hd : decide ((i : Int) ≤ m.C) = false := decide_eq_false hlt
              have CV := Lib.hid (cnt_yes HM.out)
              have fe : ((upN m xs i : Int) == ((allKeys m).length : Int)) = true := by
                rw [up_all (m := m) (xs := xs) (i := i) (by have := HL.out; omega)]; simp
              go_wp2_with fail
              clear q0 q1 q2 q3 q4
              refine (countKeys_any m _).mono ?_
              rw [CV.out.1, CV.out.2]
              rintro e wn ⟨rfl, bn⟩
              have cz := below_trans' (below_trans' cN hb.out) bn
              go_wp2
              go_ret
              exact ⟨rfl, cz⟩
        · have kb : (knE m xs z != 0) = true := by simpa using hk0
          go_wp2
          go_ret
          exact ⟨rfl, cN⟩
      · have mb : (ktE m2 zs == 0) = false := by simpa using hm0
        by_cases hk0 : knE m xs z = 0
        · obtain ⟨hkt, hlen, hmo⟩ := kn_facts hk0
          have HK := Lib.hid hkt
          have HM := Lib.hid hmo
          have HL := Lib.hid hlen
          have kb : (knE m xs z != 0) = false := by rw [hk0]; rfl
          have cl : 1 ≤ m.C ∧ m.C ≤ 7 := ⟨hSm.1, hSm.2.1⟩
          have YL := y14.lt
          clear hkt hlen hmo
          go_wp2
          clear f1 f2 f3 f4 f5 f6
          go_loopw [24, 25] (fun tot dd wr => ∃ i : Nat, (i : Int) ≤ m.C + 1 ∧ dd = .int .i64 (i : Int) ∧ tot = .int .i64 (upN m xs i : Int) ∧ Hid (Below w14.heap.size w14 wr)) (fun _ dd _ => 10 - (intOf dd).toNat)
          case atStart => exact ⟨0, by omega, by go_num, by rw [up_zero]; rfl, Lib.hid (Below.refl _ _)⟩
          case round =>
            obtain ⟨i, hi, rfl, rfl, hb⟩ := hrel
            have hy := y14.below hb.out YL
            have hxi := hx14.on hb.out
            obtain ⟨q0, q1, q2, q3, q4⟩ := hy.cells
            have ub := up_small (m := m) (xs := xs) HM.out (i + 1)
            by_cases hlt : (i : Int) ≤ m.C
            · have hd : decide ((i : Int) ≤ m.C) = true := decide_eq_true hlt
              obtain ⟨n1, n2⟩ := kn_yes (z := (i : Int)) HK.out (inB_true.2 ⟨by omega, hlt⟩)
              have N1 := Lib.hid n1
              have N2 := Lib.hid n2
              have us := up_step m xs i
              have v1 : IntKind.i64.wrap ((upN m xs i : Int) + (nearN m xs m.C.toNat [] (i : Int) : Int)) = (upN m xs (i + 1) : Int) := by rw [IntKind.wrap_i64]; omega
              clear n1 n2
              go_wp2_with fail
              clear q0 q1 q2 q3 q4
              refine (keysNear_any m _ _ _ xs (i : Int) _ hxi (by omega)).mono ?_
              rw [N1.out, N2.out]
              rintro e wn ⟨rfl, bn⟩
              have HB2 := Lib.hid (below_trans' hb.out bn)
              clear hy hxi bn hb
              go_wp2
              go_roundw
              case rel => exact ⟨i + 1, by omega, by go_num, by rw [us, Int.natCast_add], HB2⟩
              case measure => simp [intOf]; omega
            · have hd : decide ((i : Int) ≤ m.C) = false := decide_eq_false hlt
              have CV := Lib.hid (cnt_yes HM.out)
              have fe : ((upN m xs i : Int) == ((allKeys m).length : Int)) = true := by
                rw [up_all (m := m) (xs := xs) (i := i) (by have := HL.out; omega)]; simp
              go_wp2_with fail
              clear q0 q1 q2 q3 q4
              refine (countKeys_any m _).mono ?_
              rw [CV.out.1, CV.out.2]
              rintro e wn ⟨rfl, bn⟩
              have cz := below_trans' (below_trans' c14 hb.out) bn
              go_wp2
              go_ret
              exact ⟨rfl, cz⟩
        · have kb : (knE m xs z != 0) = true := by simpa using hk0
          go_wp2
          go_ret
          exact ⟨rfl, c14⟩
    · have rb : (ktE m3 us == 0) = false := by simpa using hr0
      clear u11 hu11 ra11
      by_cases hm0 : ktE m2 zs = 0
      · obtain ⟨g1, g2⟩ := nk_laws hm0
        obtain rfl : t = p := by rw [← hl11.len, ← hz11.len]; exact g1
        have G2 := Lib.hid (decide_eq_false g2)
        have mb : (ktE m2 zs == 0) = true := by rw [hm0]; rfl
        clear g1 g2
        go_wp2_with fail
        refine (likeInts_any _ _ _ _ _ (nkL m2 zs) zs _ hl11 hz11 (by omega)).mono ?_
        rw [G2.out]
        rintro e wN ⟨rfl, qN, hqN⟩
        have yN : Boxed wN w1.heap.size 29 m := by rw [hqN]; exact y11
        have hxN : Ints wN wN.heap.size D k xs := by rw [hqN]; exact ints_drewN hx11 qN
        have cN : Below w.heap.size w wN := by rw [hqN]; exact below_drewN c11 qN
        clear y11 hx11 hz11 hl11 c11 hqN
        by_cases hk0 : knE m xs z = 0
        · obtain ⟨hkt, hlen, hmo⟩ := kn_facts hk0
          have HK := Lib.hid hkt
          have HM := Lib.hid hmo
          have HL := Lib.hid hlen
          have kb : (knE m xs z != 0) = false := by rw [hk0]; rfl
          have cl : 1 ≤ m.C ∧ m.C ≤ 7 := ⟨hSm.1, hSm.2.1⟩
          have YL := yN.lt
          clear hkt hlen hmo
          go_wp2
          clear f1 f2 f3 f4 f5 f6
          go_loopw [24, 25] (fun tot dd wr => ∃ i : Nat, (i : Int) ≤ m.C + 1 ∧ dd = .int .i64 (i : Int) ∧ tot = .int .i64 (upN m xs i : Int) ∧ Hid (Below wN.heap.size wN wr)) (fun _ dd _ => 10 - (intOf dd).toNat)
          case atStart => exact ⟨0, by omega, by go_num, by rw [up_zero]; rfl, Lib.hid (Below.refl _ _)⟩
          case round =>
            obtain ⟨i, hi, rfl, rfl, hb⟩ := hrel
            have hy := yN.below hb.out YL
            have hxi := hxN.on hb.out
            obtain ⟨q0, q1, q2, q3, q4⟩ := hy.cells
            have ub := up_small (m := m) (xs := xs) HM.out (i + 1)
            by_cases hlt : (i : Int) ≤ m.C
            · have hd : decide ((i : Int) ≤ m.C) = true := decide_eq_true hlt
              obtain ⟨n1, n2⟩ := kn_yes (z := (i : Int)) HK.out (inB_true.2 ⟨by omega, hlt⟩)
              have N1 := Lib.hid n1
              have N2 := Lib.hid n2
              have us := up_step m xs i
              have v1 : IntKind.i64.wrap ((upN m xs i : Int) + (nearN m xs m.C.toNat [] (i : Int) : Int)) = (upN m xs (i + 1) : Int) := by rw [IntKind.wrap_i64]; omega
              clear n1 n2
              go_wp2_with fail
              clear q0 q1 q2 q3 q4
              refine (keysNear_any m _ _ _ xs (i : Int) _ hxi (by omega)).mono ?_
              rw [N1.out, N2.out]
              rintro e wn ⟨rfl, bn⟩
              have HB2 := Lib.hid (below_trans' hb.out bn)
              clear hy hxi bn hb
              go_wp2
              go_roundw
              case rel => exact ⟨i + 1, by omega, by go_num, by rw [us, Int.natCast_add], HB2⟩
              case measure => simp [intOf]; omega
            · have hd : decide ((i : Int) ≤ m.C) = false := decide_eq_false hlt
              have CV := Lib.hid (cnt_yes HM.out)
              have fe : ((upN m xs i : Int) == ((allKeys m).length : Int)) = true := by
                rw [up_all (m := m) (xs := xs) (i := i) (by have := HL.out; omega)]; simp
              go_wp2_with fail
              clear q0 q1 q2 q3 q4
              refine (countKeys_any m _).mono ?_
              rw [CV.out.1, CV.out.2]
              rintro e wn ⟨rfl, bn⟩
              have cz := below_trans' (below_trans' cN hb.out) bn
              go_wp2
              go_ret
              exact ⟨rfl, cz⟩
        · have kb : (knE m xs z != 0) = true := by simpa using hk0
          go_wp2
          go_ret
          exact ⟨rfl, cN⟩
      · have mb : (ktE m2 zs == 0) = false := by simpa using hm0
        by_cases hk0 : knE m xs z = 0
        · obtain ⟨hkt, hlen, hmo⟩ := kn_facts hk0
          have HK := Lib.hid hkt
          have HM := Lib.hid hmo
          have HL := Lib.hid hlen
          have kb : (knE m xs z != 0) = false := by rw [hk0]; rfl
          have cl : 1 ≤ m.C ∧ m.C ≤ 7 := ⟨hSm.1, hSm.2.1⟩
          have YL := y11.lt
          clear hkt hlen hmo
          go_wp2
          clear f1 f2 f3 f4 f5 f6
          go_loopw [24, 25] (fun tot dd wr => ∃ i : Nat, (i : Int) ≤ m.C + 1 ∧ dd = .int .i64 (i : Int) ∧ tot = .int .i64 (upN m xs i : Int) ∧ Hid (Below w11.heap.size w11 wr)) (fun _ dd _ => 10 - (intOf dd).toNat)
          case atStart => exact ⟨0, by omega, by go_num, by rw [up_zero]; rfl, Lib.hid (Below.refl _ _)⟩
          case round =>
            obtain ⟨i, hi, rfl, rfl, hb⟩ := hrel
            have hy := y11.below hb.out YL
            have hxi := hx11.on hb.out
            obtain ⟨q0, q1, q2, q3, q4⟩ := hy.cells
            have ub := up_small (m := m) (xs := xs) HM.out (i + 1)
            by_cases hlt : (i : Int) ≤ m.C
            · have hd : decide ((i : Int) ≤ m.C) = true := decide_eq_true hlt
              obtain ⟨n1, n2⟩ := kn_yes (z := (i : Int)) HK.out (inB_true.2 ⟨by omega, hlt⟩)
              have N1 := Lib.hid n1
              have N2 := Lib.hid n2
              have us := up_step m xs i
              have v1 : IntKind.i64.wrap ((upN m xs i : Int) + (nearN m xs m.C.toNat [] (i : Int) : Int)) = (upN m xs (i + 1) : Int) := by rw [IntKind.wrap_i64]; omega
              clear n1 n2
              go_wp2_with fail
              clear q0 q1 q2 q3 q4
              refine (keysNear_any m _ _ _ xs (i : Int) _ hxi (by omega)).mono ?_
              rw [N1.out, N2.out]
              rintro e wn ⟨rfl, bn⟩
              have HB2 := Lib.hid (below_trans' hb.out bn)
              clear hy hxi bn hb
              go_wp2
              go_roundw
              case rel => exact ⟨i + 1, by omega, by go_num, by rw [us, Int.natCast_add], HB2⟩
              case measure => simp [intOf]; omega
            · have hd : decide ((i : Int) ≤ m.C) = false := decide_eq_false hlt
              have CV := Lib.hid (cnt_yes HM.out)
              have fe : ((upN m xs i : Int) == ((allKeys m).length : Int)) = true := by
                rw [up_all (m := m) (xs := xs) (i := i) (by have := HL.out; omega)]; simp
              go_wp2_with fail
              clear q0 q1 q2 q3 q4
              refine (countKeys_any m _).mono ?_
              rw [CV.out.1, CV.out.2]
              rintro e wn ⟨rfl, bn⟩
              have cz := below_trans' (below_trans' c11 hb.out) bn
              go_wp2
              go_ret
              exact ⟨rfl, cz⟩
        · have kb : (knE m xs z != 0) = true := by simpa using hk0
          go_wp2
          go_ret
          exact ⟨rfl, c11⟩
  · have d0 : decide (4096 < (n : Int)) = true := by simp; omega
    go_enter Try.func20, Try.ntmps20
    go_wp2_with fail
    refine (big_any _ _ _ _).mono ?_
    rintro e w' ⟨rfl, rfl⟩
    rw [d0]
    go_wp2
    go_ret
    exact ⟨rfl, Below.refl _ _⟩

end Go.Proofs.Ytbadahnhlehidaa
