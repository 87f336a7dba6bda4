/- NumberOf: the two functions and the law's walk. -/
import Derived.Test.YtnonmjllopcaeaaNumb
namespace Go.Proofs.Ytnonmjllopcaeaa
open Go.RowKit

theorem numberOf_any (A A' : Option Addr) (n n' c c' : Nat) (ds bs : List Int) (w : World) (h : Ints w w.heap.size A n ds) (h' : Ints w w.heap.size A' n' bs) (hn : n ≤ 1048576) (hn' : n' ≤ 1048576) :
    Calls Try.prog 28 #[.slice A n c, .slice A' n' c'] w fun e w' => e = .returned (.tuple #[.int .i64 (numV ds bs), .int .i64 (numE ds bs)]) ∧ w = w' := by
  have HL := Lib.hid h.len
  have HL' := Lib.hid h'.len
  rcases hq : withB 1 100 bs with _ | _
  · obtain ⟨e1, e2⟩ := num_no (ds := ds) (bs := bs) (.inl hq)
    rw [e1, e2]; clear e1 e2
    go_enter Try.func28, Try.ntmps28
    go_wp2_with (go_at_call 52; refine (areBases_any _ _ _ bs _ h' hn').mono ?_; rintro e w' ⟨rfl, rfl⟩)
    go_ret2
    exact ⟨rfl, rfl⟩
  have HQ := Lib.hid hq
  by_cases hne : n = n'
  · obtain rfl : n = n' := hne
    have HA := Lib.hid (withB_true hq).2
    rcases hd : digsB (ds.zip bs) with _ | _
    · obtain ⟨e1, e2⟩ := num_no (ds := ds) (bs := bs) (.inr (.inr hd))
      rw [e1, e2]; clear e1 e2
      go_enter Try.func28, Try.ntmps28
      go_wp2_with (first | (go_at_call 52; refine (areBases_any _ _ _ bs _ h' hn').mono ?_; rintro e w' ⟨rfl, rfl⟩) | (go_at_call 54; refine (areDigits_any _ _ _ _ _ ds bs _ h h' hn HA.out).mono ?_; rintro e w' ⟨rfl, rfl⟩))
      go_ret2
      exact ⟨rfl, rfl⟩
    · obtain ⟨e1, e2⟩ := num_yes (ds := ds) (bs := bs) hq (by rw [HL.out, HL'.out]) hd
      rw [e1, e2]; clear e1 e2
      go_enter Try.func28, Try.ntmps28
      go_wp2_with (first | (go_at_call 52; refine (areBases_any _ _ _ bs _ h' hn').mono ?_; rintro e w' ⟨rfl, rfl⟩) | (go_at_call 54; refine (areDigits_any _ _ _ _ _ ds bs _ h h' hn HA.out).mono ?_; rintro e w' ⟨rfl, rfl⟩))
      have HD := Lib.hid hd
      clear hd hq
      go_loop [6, 20] (fun s i => ∃ k : Nat, k ≤ n ∧ i = .int .i64 k ∧ s = .int .i64 (numC ((ds.zip bs).take k))) (fun _ i => n - (intOf i).toNat)
      case atStart => exact ⟨0, Nat.zero_le _, rfl, rfl⟩
      case round =>
        obtain ⟨k, hk, rfl, rfl⟩ := hrel
        obtain ⟨r0, r1⟩ := num_range HL.out HL'.out HD.out HA.out k hk
        by_cases hlt : k < n
        · obtain ⟨ad, d, rfl, hab, hv, hc⟩ := h.at_ hlt
          obtain ⟨ad', b, rfl, hab', hv', hc'⟩ := h'.at_ hlt
          obtain ⟨b0, b1⟩ := allIn_at HA.out hv'
          obtain ⟨d0, d1⟩ := digs_at HD.out hv hv'
          obtain ⟨m0, m1⟩ := mul_range r0 r1 b0 b1
          have HT := Lib.hid (num_step hv hv')
          clear hv hv'
          go_wp2_with (go_at_call 48; refine (minimumOf_any _ _ _).mono ?_; rintro e w' ⟨rfl, rfl⟩)
          all_goals
            go_round
            case rel => exact ⟨k + 1, by omega, by go_num, by rw [HT.out]; refine congrArg _ ?_; unfold numStep; split <;> omega⟩
            case measure => simp [intOf]; omega
        · have HX := Lib.hid (digs_end (bs := bs) HL.out hlt)
          go_wp2_with (go_at_call 35; refine (numberOrLimit_any _ _).mono ?_; rintro e w' ⟨rfl, rfl⟩)
          go_ret2
          exact ⟨ret_int2 (by rw [HX.out]) (by rw [HX.out]), rfl⟩
  · obtain ⟨e1, e2⟩ := num_no (ds := ds) (bs := bs) (.inr (.inl (by rw [HL.out, HL'.out]; exact hne)))
    rw [e1, e2]; clear e1 e2
    go_enter Try.func28, Try.ntmps28
    go_wp2_with (first | (go_at_call 52; refine (areBases_any _ _ _ bs _ h' hn').mono ?_; rintro e w' ⟨rfl, rfl⟩) | (go_at_call 54; refine (areDigits_len _ _ _ _ _ _ _ hne).mono ?_; rintro e w' ⟨rfl, rfl⟩))
    go_ret2
    exact ⟨rfl, rfl⟩

set_option maxHeartbeats 1000000 in
theorem specNumberOf_any (A A' : Option Addr) (n n' c c' : Nat) (ds bs : List Int) (w : World) (h : Ints w w.heap.size A n ds) (h' : Ints w w.heap.size A' n' bs) (hn' : n' ≤ 1048576) :
    Calls Try.prog 29 #[.slice A n c, .slice A' n' c'] w fun e w' => e = .returned (.tuple #[.int .i64 (numV ds bs), .int .i64 (numE ds bs)]) ∧ Below w.heap.size w w' := by
  have HL := Lib.hid h.len
  have HL' := Lib.hid h'.len
  by_cases hne : n = n'
  · obtain rfl : n = n' := hne
    rcases hq : withB 1 100 bs with _ | _
    · obtain ⟨e1, e2⟩ := num_no (ds := ds) (bs := bs) (.inl hq)
      rw [e1, e2]; clear e1 e2
      go_enter Try.func29, Try.ntmps29
      go_wp2_with (go_at_call 53; refine (l01Bases_any _ _ _ bs _ h' hn').mono ?_; rintro e w' ⟨rfl, rfl⟩)
      go_ret2
      exact ⟨rfl, Below.refl _ _⟩
    · have HQ := Lib.hid hq
      have HA := Lib.hid (withB_true hq).2
      go_enter Try.func29, Try.ntmps29
      go_wp2_with (go_at_call 53; refine (l01Bases_any _ _ _ bs _ h' hn').mono ?_; rintro e w' ⟨rfl, rfl⟩)
      clear hq
      go_loopw [6, 7] (fun s i wr => ∃ k : Nat, k ≤ n ∧ i = .int .i64 k ∧ s = .int .i64 (numC ((ds.zip bs).take k)) ∧ Hid (digsB ((ds.zip bs).take k) = true) ∧ Below w.heap.size w wr) (fun _ i _ => n - (intOf i).toNat)
      case atStart => exact ⟨0, Nat.zero_le _, rfl, rfl, Lib.hid rfl, Below.refl _ _⟩
      case round =>
        obtain ⟨k, hk, rfl, rfl, hall, hb⟩ := hrel
        obtain ⟨r0, r1⟩ := num_range' HL.out HL'.out HA.out k hk hall.out
        by_cases hlt : k < n
        · obtain ⟨ad, d, rfl, hab, hv, hc⟩ := (h.below hb).at_ hlt
          obtain ⟨ad', b, rfl, hab', hv', hc'⟩ := (h'.below hb).at_ hlt
          obtain ⟨b0, b1⟩ := allIn_at HA.out hv'
          have s1 : IntKind.i64.wrap (b - 1) = b - 1 := IntWalk.i64_in _ (by omega)
          rcases hq : inB d 0 (b - 1) with _ | _
          · have HN := Lib.hid (num_no (ds := ds) (bs := bs) (.inr (.inr (digs_no hv hv' hq))))
            clear hv hv'
            go_wp2
            go_quiet ((go_at_call 46; exact quiet_left (l01In_any _ _ _ _)))
            go_wp2
            go_ret2
            exact ⟨ret_int2 HN.out.1.symm HN.out.2.symm, below_drewN hb _⟩
          · obtain ⟨d0, d1⟩ := inB_true.1 hq
            have HS := Lib.hid (digs_step hv hv' hall.out hq)
            have HT := Lib.hid (num_step hv hv')
            clear hv hv'
            go_wp2
            go_quiet ((go_at_call 46; exact quiet_left (l01In_any _ _ _ _)))
            go_wp2
            have c0 := capM_range r0 (show 0 ≤ b by omega)
            obtain ⟨q0, q1⟩ := c0
            have s2 : IntKind.i64.wrap (capM (numC ((ds.zip bs).take k)) b + d) = capM (numC ((ds.zip bs).take k)) b + d := IntWalk.i64_in _ (by omega)
            go_quiet ((go_at_call 38; exact quiet_add_left (l01Cut_any _ _ _ (by omega) (by omega) (by omega) (by omega))))
            go_wp2
            go_roundw
            case rel =>
              clear s1 s2
              refine ⟨k + 1, by omega, by go_num, ?_, HS, ?_⟩
              · rw [HT.out, numStep_cut d0]
              · first | exact below_drewN hb _ | exact below_drewN (below_drewN hb _) _
            case measure => simp [intOf]; omega
        · have HX := Lib.hid (digs_end (bs := bs) HL.out hlt)
          have HD : Hid (digsB (ds.zip bs) = true) := by rw [← HX.out]; exact hall
          have HY := Lib.hid (num_yes (ds := ds) (bs := bs) HQ.out (by rw [HL.out, HL'.out]) HD.out)
          go_wp2_with (go_at_call 39; refine (l01Result_any _ _).mono ?_; rintro e w' ⟨rfl, rfl⟩)
          go_ret2
          exact ⟨ret_int2 (by rw [HX.out, HY.out.1]) (by rw [HX.out, HY.out.2]), hb⟩
  · obtain ⟨e1, e2⟩ := num_no (ds := ds) (bs := bs) (.inr (.inl (by rw [HL.out, HL'.out]; exact hne)))
    rw [e1, e2]; clear e1 e2
    go_enter Try.func29, Try.ntmps29
    go_wp2
    go_ret2
    exact ⟨rfl, Below.refl _ _⟩

end Go.Proofs.Ytnonmjllopcaeaa
