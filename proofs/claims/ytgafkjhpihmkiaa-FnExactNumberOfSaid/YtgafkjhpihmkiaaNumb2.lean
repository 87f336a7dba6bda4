/- NumberOf: the two functions and the law's walk. -/
import Derived.Test.YtgafkjhpihmkiaaNumb
namespace Go.Proofs.Ytgafkjhpihmkiaa
open Go.RowKit

theorem numberOf_any (A A' : Option Addr) (n n' c c' : Nat) (ds bs : List Int) (w : World) (h : Ints w w.heap.size A n ds) (h' : Ints w w.heap.size A' n' bs) (hn : n ≤ 1048576) (hn' : n' ≤ 1048576) :
    Calls Try.prog 35 #[.slice A n c, .slice A' n' c'] w fun e w' => e = .returned (.tuple #[.int .i64 (numV ds bs), .int .i64 (numE ds bs)]) ∧ w = w' := by
  have HL := Lib.hid h.len
  have HL' := Lib.hid h'.len
  rcases hq : withB 1 100 bs with _ | _
  · obtain ⟨e1, e2⟩ := num_no (ds := ds) (bs := bs) (.inl hq)
    rw [e1, e2]; clear e1 e2
    go_enter Try.func35, Try.ntmps35
    go_wp2_with (go_at_call 63; refine (areBases_any _ _ _ bs _ h' hn').mono ?_; rintro e w' ⟨rfl, rfl⟩)
    go_ret2
    exact ⟨rfl, rfl⟩
  have HQ := Lib.hid hq
  by_cases hne : n = n'
  · obtain rfl : n = n' := hne
    have HA := Lib.hid (withB_true hq).2
    rcases hd : digsB (ds.zip bs) with _ | _
    · obtain ⟨e1, e2⟩ := num_no (ds := ds) (bs := bs) (.inr (.inr hd))
      rw [e1, e2]; clear e1 e2
      go_enter Try.func35, Try.ntmps35
      go_wp2_with (first | (go_at_call 63; refine (areBases_any _ _ _ bs _ h' hn').mono ?_; rintro e w' ⟨rfl, rfl⟩) | (go_at_call 65; refine (areDigits_any _ _ _ _ _ ds bs _ h h' hn HA.out).mono ?_; rintro e w' ⟨rfl, rfl⟩))
      go_ret2
      exact ⟨rfl, rfl⟩
    · obtain ⟨e1, e2⟩ := num_yes (ds := ds) (bs := bs) hq (by rw [HL.out, HL'.out]) hd
      rw [e1, e2]; clear e1 e2
      go_enter Try.func35, Try.ntmps35
      go_wp2_with (first | (go_at_call 63; refine (areBases_any _ _ _ bs _ h' hn').mono ?_; rintro e w' ⟨rfl, rfl⟩) | (go_at_call 65; refine (areDigits_any _ _ _ _ _ ds bs _ h h' hn HA.out).mono ?_; rintro e w' ⟨rfl, rfl⟩))
      have HD := Lib.hid hd
      clear hd hq
      go_loop [6, 20] (fun s i => ∃ k : Nat, k ≤ n ∧ i = .int .i64 k ∧ s = .int .i64 (numC ((ds.zip bs).take k))) (fun _ i => n - (intOf i).toNat)
      case atStart => exact ⟨0, Nat.zero_le _, rfl, rfl⟩
      case round =>
        obtain ⟨k, hk, rfl, rfl⟩ := hrel
        obtain ⟨r0, r1⟩ := num_range HL.out HL'.out HD.out HA.out k hk
        by_cases hlt : k < n
        · obtain ⟨ad, d, rfl, hab, hv, hc⟩ := h.at_ hlt
          obtain ⟨ad', b, rfl, hab', hv', hc'⟩ := h'.at_ hlt
          obtain ⟨b0, b1⟩ := allIn_at HA.out hv'
          obtain ⟨d0, d1⟩ := digs_at HD.out hv hv'
          obtain ⟨m0, m1⟩ := mul_range r0 r1 b0 b1
          have HT := Lib.hid (num_step hv hv')
          clear hv hv'
          go_wp2_with (go_at_call 59; refine (minimumOf_any _ _ _).mono ?_; rintro e w' ⟨rfl, rfl⟩)
          all_goals
            go_round
            case rel => exact ⟨k + 1, by omega, by go_num, by rw [HT.out]; refine congrArg _ ?_; unfold numStep; split <;> omega⟩
            case measure => simp [intOf]; omega
        · have HX := Lib.hid (digs_end (bs := bs) HL.out hlt)
          go_wp2_with (go_at_call 46; refine (numberOrLimit_any _ _).mono ?_; rintro e w' ⟨rfl, rfl⟩)
          go_ret2
          exact ⟨ret_int2 (by rw [HX.out]) (by rw [HX.out]), rfl⟩
  · obtain ⟨e1, e2⟩ := num_no (ds := ds) (bs := bs) (.inr (.inl (by rw [HL.out, HL'.out]; exact hne)))
    rw [e1, e2]; clear e1 e2
    go_enter Try.func35, Try.ntmps35
    go_wp2_with (first | (go_at_call 63; refine (areBases_any _ _ _ bs _ h' hn').mono ?_; rintro e w' ⟨rfl, rfl⟩) | (go_at_call 65; refine (areDigits_len _ _ _ _ _ _ _ hne).mono ?_; rintro e w' ⟨rfl, rfl⟩))
    go_ret2
    exact ⟨rfl, rfl⟩

set_option maxHeartbeats 1000000 in
theorem specNumberOf_any (A A' : Option Addr) (n n' c c' : Nat) (ds bs : List Int) (w : World) (h : Ints w w.heap.size A n ds) (h' : Ints w w.heap.size A' n' bs) (hn' : n' ≤ 1048576) :
    Calls Try.prog 36 #[.slice A n c, .slice A' n' c'] w fun e w' => e = .returned (.tuple #[.int .i64 (numV ds bs), .int .i64 (numE ds bs)]) ∧ Below w.heap.size w w' := by
  have HL := Lib.hid h.len
  have HL' := Lib.hid h'.len
  by_cases hne : n = n'
  · obtain rfl : n = n' := hne
    rcases hq : withB 1 100 bs with _ | _
    · obtain ⟨e1, e2⟩ := num_no (ds := ds) (bs := bs) (.inl hq)
      rw [e1, e2]; clear e1 e2
      go_enter Try.func36, Try.ntmps36
      go_wp2_with (go_at_call 64; refine (l01Bases_any _ _ _ bs _ h' hn').mono ?_; rintro e w' ⟨rfl, rfl⟩)
      go_ret2
      exact ⟨rfl, Below.refl _ _⟩
    · have HQ := Lib.hid hq
      have HA := Lib.hid (withB_true hq).2
      go_enter Try.func36, Try.ntmps36
      go_wp2_with (go_at_call 64; refine (l01Bases_any _ _ _ bs _ h' hn').mono ?_; rintro e w' ⟨rfl, rfl⟩)
      clear hq
      go_loopw [6, 7] (fun s i wr => ∃ k : Nat, k ≤ n ∧ i = .int .i64 k ∧ s = .int .i64 (numC ((ds.zip bs).take k)) ∧ Hid (digsB ((ds.zip bs).take k) = true) ∧ Below w.heap.size w wr) (fun _ i _ => n - (intOf i).toNat)
      case atStart => exact ⟨0, Nat.zero_le _, rfl, rfl, Lib.hid rfl, Below.refl _ _⟩
      case round =>
        obtain ⟨k, hk, rfl, rfl, hall, hb⟩ := hrel
        obtain ⟨r0, r1⟩ := num_range' HL.out HL'.out HA.out k hk hall.out
        by_cases hlt : k < n
        · obtain ⟨ad, d, rfl, hab, hv, hc⟩ := (h.below hb).at_ hlt
          obtain ⟨ad', b, rfl, hab', hv', hc'⟩ := (h'.below hb).at_ hlt
          obtain ⟨b0, b1⟩ := allIn_at HA.out hv'
          have s1 : IntKind.i64.wrap (b - 1) = b - 1 := IntWalk.i64_in _ (by omega)
          rcases hq : inB d 0 (b - 1) with _ | _
          · have HN := Lib.hid (num_no (ds := ds) (bs := bs) (.inr (.inr (digs_no hv hv' hq))))
            clear hv hv'
            go_wp2
            go_quiet ((go_at_call 57; exact quiet_left (l01In_any _ _ _ _)))
            go_wp2
            go_ret2
            exact ⟨ret_int2 HN.out.1.symm HN.out.2.symm, below_drewN hb _⟩
          · obtain ⟨d0, d1⟩ := inB_true.1 hq
            have HS := Lib.hid (digs_step hv hv' hall.out hq)
            have HT := Lib.hid (num_step hv hv')
            clear hv hv'
            go_wp2
            go_quiet ((go_at_call 57; exact quiet_left (l01In_any _ _ _ _)))
            go_wp2
            have c0 := capM_range r0 (show 0 ≤ b by omega)
            obtain ⟨q0, q1⟩ := c0
            have s2 : IntKind.i64.wrap (capM (numC ((ds.zip bs).take k)) b + d) = capM (numC ((ds.zip bs).take k)) b + d := IntWalk.i64_in _ (by omega)
            go_quiet ((go_at_call 49; exact quiet_add_left (l01Cut_any _ _ _ (by omega) (by omega) (by omega) (by omega))))
            go_wp2
            go_roundw
            case rel =>
              clear s1 s2
              refine ⟨k + 1, by omega, by go_num, ?_, HS, ?_⟩
              · rw [HT.out, numStep_cut d0]
              · first | exact below_drewN hb _ | exact below_drewN (below_drewN hb _) _
            case measure => simp [intOf]; omega
        · have HX := Lib.hid (digs_end (bs := bs) HL.out hlt)
          have HD : Hid (digsB (ds.zip bs) = true) := by rw [← HX.out]; exact hall
          have HY := Lib.hid (num_yes (ds := ds) (bs := bs) HQ.out (by rw [HL.out, HL'.out]) HD.out)
          go_wp2_with (go_at_call 50; refine (l01Result_any _ _).mono ?_; rintro e w' ⟨rfl, rfl⟩)
          go_ret2
          exact ⟨ret_int2 (by rw [HX.out, HY.out.1]) (by rw [HX.out, HY.out.2]), hb⟩
  · obtain ⟨e1, e2⟩ := num_no (ds := ds) (bs := bs) (.inr (.inl (by rw [HL.out, HL'.out]; exact hne)))
    rw [e1, e2]; clear e1 e2
    go_enter Try.func36, Try.ntmps36
    go_wp2
    go_ret2
    exact ⟨rfl, Below.refl _ _⟩

theorem lawNumber_any (A A' : Option Addr) (n n' c c' : Nat) (ds bs : List Int) (w : World) (h : Ints w w.heap.size A n ds) (h' : Ints w w.heap.size A' n' bs) :
    Calls Try.prog 11 #[.slice A n c, .slice A' n' c'] w fun e w' => e = .returned (.bool true) ∧ Below w.heap.size w w' := by
  by_cases hn : n ≤ 1048576
  · by_cases hn' : n' ≤ 1048576
    · go_enter Try.func11, Try.ntmps11
      go_wp2_with fail
      refine (toInt64S_any _ _ _ ds _ h hn).mono ?_
      rintro e w1 ⟨g1, rfl, _, r1, b1⟩
      have i1 := Ints.of_row r1 h.len
      have h1 := h.on b1
      have k1 := h'.on b1
      clear r1
      go_wp2_with fail
      refine (toInt64S_any _ _ _ bs _ k1 hn').mono ?_
      rintro e w2 ⟨g2, rfl, _, r2, b2⟩
      have i2 := Ints.of_row r2 h'.len
      have i1' := i1.on b2
      have h2 := h1.on b2
      have k2 := k1.on b2
      have c2 := below_trans' b1 b2
      clear r2 b1 b2 h1 k1 i1
      go_wp2_with fail
      refine (specNumberOf_any _ _ _ _ _ _ ds bs _ i1' i2 hn').mono ?_
      rintro e w3 ⟨rfl, b3⟩
      have h3 := h2.on b3
      have k3 := k2.on b3
      have c3 := below_trans' c2 b3
      clear b3 c2 h2 k2 i1' i2
      go_wp2_with fail
      refine (toInt64S_any _ _ _ ds _ h3 hn).mono ?_
      rintro e w4 ⟨g4, rfl, _, r4, b4⟩
      have x4 := Ints.of_row r4 h.len
      have h4 := h3.on b4
      have k4 := k3.on b4
      have c4 := below_trans' c3 b4
      clear r4 b4 c3 h3 k3
      go_wp2_with fail
      refine (toInt64S_any _ _ _ bs _ k4 hn').mono ?_
      rintro e w5 ⟨g5, rfl, _, r5, b5⟩
      have y5 := Ints.of_row r5 h'.len
      have x5 := x4.on b5
      have h5 := h4.on b5
      have k5 := k4.on b5
      have c5 := below_trans' c4 b5
      clear r5 b5 c4 h4 k4 x4
      go_wp2_with fail
      refine (numberOf_any _ _ _ _ _ _ ds bs _ x5 y5 hn hn').mono ?_
      rintro e w' ⟨rfl, rfl⟩
      go_wp2_with fail
      refine (toInt64S_any _ _ _ ds _ h5 hn).mono ?_
      rintro e w6 ⟨g6, rfl, _, r6, b6⟩
      have z6 := Ints.of_row r6 h.len
      have x6 := x5.on b6
      have y6 := y5.on b6
      have k6 := k5.on b6
      have c6 := below_trans' c5 b6
      clear r6 b6 c5 x5 y5 h5 k5
      go_wp2_with fail
      refine (eqInts_true _ _ _ _ _ ds _ x6 z6 hn).mono ?_
      rintro e w7 ⟨rfl, b7⟩
      have y7 := y6.on b7
      have k7 := k6.on b7
      have c7 := below_trans' c6 b7
      clear b7 c6 x6 y6 z6 k6
      go_wp2_with fail
      refine (toInt64S_any _ _ _ bs _ k7 hn').mono ?_
      rintro e w8 ⟨g8, rfl, _, r8, b8⟩
      have z8 := Ints.of_row r8 h'.len
      have y8 := y7.on b8
      have c8 := below_trans' c7 b8
      clear r8 b8 c7 y7 k7
      go_wp2_with fail
      refine (eqInts_true _ _ _ _ _ bs _ y8 z8 hn').mono ?_
      rintro e w9 ⟨rfl, b9⟩
      have c9 := below_trans' c8 b9
      go_wp2
      go_ret
      exact ⟨rfl, c9⟩
    · go_enter Try.func11, Try.ntmps11
      go_wp2
      go_ret
      exact ⟨rfl, Below.refl _ _⟩
  · go_enter Try.func11, Try.ntmps11
    go_wp2
    go_ret
    exact ⟨rfl, Below.refl _ _⟩

end Go.Proofs.Ytgafkjhpihmkiaa
