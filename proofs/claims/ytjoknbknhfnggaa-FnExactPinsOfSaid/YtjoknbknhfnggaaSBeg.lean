/- l02Begins of the model: its contract. -/
import Derived.Test.YtjoknbknhfnggaaKeyMath
namespace Go.Proofs.Ytjoknbknhfnggaa
open Go.RowKit

theorem begins_no3 {m : Mk} {xs : List Int} {k n : Nat} (hl : xs.length = n) (hk : k < n) (h : stepAt m.S xs k = false) : beginsB m xs = false := by
  unfold beginsB
  rw [show stepsB m.S xs = false from not_all_range (by rw [hl]; exact hk) h]; rfl
theorem begins_no4 {m : Mk} {xs : List Int} {k n : Nat} (hl : xs.length = n) (hk : k < n) (h : runOk m.M xs k = false) : beginsB m xs = false := by
  unfold beginsB
  rw [show runsB m.M xs = false from not_all_range (by rw [hl]; exact hk) h, Bool.and_false]
theorem begins_yes {m : Mk} {xs : List Int} {k n : Nat} (hl : xs.length = n) (hk : ¬ k < n) (h : ∀ j, j < k → (stepAt m.S xs j && runOk m.M xs j) = true) : beginsB m xs = true := by
  unfold beginsB
  rw [show stepsB m.S xs = true from all_range (k := k) (by rw [hl]; exact hk) (fun j hj => (Bool.and_eq_true_iff.1 (h j hj)).1), show runsB m.M xs = true from all_range (k := k) (by rw [hl]; exact hk) (fun j hj => (Bool.and_eq_true_iff.1 (h j hj)).2)]
  rfl
theorem both_next {m : Mk} {xs : List Int} {k : Nat} (h : ∀ j, j < k → (stepAt m.S xs j && runOk m.M xs j) = true) (h3 : stepAt m.S xs k = true) (h4 : runOk m.M xs k = true) : ∀ j, j < k + 1 → (stepAt m.S xs j && runOk m.M xs j) = true :=
  all_next (p := fun j => stepAt m.S xs j && runOk m.M xs j) h (by simp [h3, h4])

set_option maxRecDepth 100000 in
set_option maxHeartbeats 4000000 in
theorem l02Begins_any (m : Mk) (A : Option Addr) (n c : Nat) (xs : List Int) (w : World) (h : Ints w w.heap.size A n xs) (hn : n ≤ 1048576) (hm : m.ok = true) (hd : allIn 0 (m.D - 1) xs = true) :
    Calls Try.prog 118 #[.agg #[.int .i64 m.C, .int .i64 m.D, .int .i64 m.S, .int .i64 m.M, .int .i64 m.L], .slice A n c] w
      fun e w' => e = .returned (.bool (beginsB m xs)) ∧ Below w.heap.size w w' := by
  obtain ⟨m1, m2, m3, m4, m5, m6, m7, m8, m9, m10, m11⟩ := Mk.ok_true hm
  have HD := Lib.hid hd
  have HL := Lib.hid h.len
  have b0 := Lib.hid ((Below.refl w.heap.size w).alloc (Nat.le_refl _) (.cells #[.int .i64 m.C, .int .i64 m.D, .int .i64 m.S, .int .i64 m.M, .int .i64 m.L] 25))
  have hx := Lib.hid (Boxed.new w 25 m)
  clear hm hd
  go_enter Try.func118, Try.ntmps118
  go_wp2
  go_loopw [5, 6] (fun r i wr => ∃ k : Nat, k ≤ n ∧ i = .int .i64 k ∧ r = .int .i64 (runAt xs k) ∧ Hid (∀ j, j < k → (stepAt m.S xs j && runOk m.M xs j) = true) ∧ Boxed wr w.heap.size 25 m ∧ Below w.heap.size w wr) (fun _ i _ => n - (intOf i).toNat)
  case atStart => exact ⟨0, Nat.zero_le _, rfl, rfl, Lib.hid (fun j hj => absurd hj (by omega)), hx.out, b0.out⟩
  case round =>
    obtain ⟨k, hk, rfl, rfl, hall, hbox, hb⟩ := hrel
    obtain ⟨q0, q1, q2, q3, q4⟩ := hbox.cells
    have HX := Lib.hid hbox
    clear hbox
    have hr := runAt_le xs k
    have hr1 := runAt_le xs (k + 1)
    by_cases hlt : k < n
    · obtain ⟨ad, v, rfl, hab, hv, hc⟩ := (h.below hb).at_ hlt
      have HV := Lib.hid hv
      obtain ⟨v0, v1⟩ := allIn_at HD.out hv
      clear hv
      by_cases h3 : 0 < k
      · have d3 : decide (0 < k) = true := by simpa using h3
        obtain ⟨ad', u, e, _, hu, hc'⟩ := (h.below hb).at_ (show k - 1 < n by omega)
        obtain rfl : ad = ad' := by injection e
        clear e
        have HU := Lib.hid hu
        obtain ⟨u0, u1⟩ := allIn_at HD.out hu
        clear hu
        have s1 : IntKind.i64.wrap ((k : Int) - 1) = (k : Int) - 1 := IntWalk.i64_in _ (by omega)
        have s2 : 0 ≤ (k : Int) - 1 := by omega
        have s3 : ((k : Int) - 1).toNat = k - 1 := by omega
        have s4 : (k : Int) - 1 < (n : Int) := by omega
        have s5 : (1 : Int) ≤ (k : Int) := by omega
        have s6 : IntKind.i64.wrap (v - u) = v - u := IntWalk.i64_in _ (by omega)
        rcases hq : inB (v - u) (-m.S) m.S with _ | _
        · have HF := Lib.hid (begins_no3 HL.out hlt (by rw [step_is HV.out HU.out h3]; exact hq))
          have dq : decide (m.S < absI (v - u)) = true := by rw [abs_step, hq]; rfl
          have h4' : (v != u) = true := by
            have : ¬ v = u := fun e => by
              rw [inB_false] at hq; omega
            simp [this]
          have h5 : decide (m.M < 1) = false := by simp; omega
          clear hq
          go_wp2
          go_quiet (fail)
          go_wp2
          go_quiet ((go_at_call 126; exact quiet_add_left (l01Abs_any _ _ (by omega) (by omega))))
          clear s1 s2 s3 s4 s5 s6
          go_wp2
          go_ret
          exact ⟨ret_bool HF.out.symm, below_drewN (below_drewN hb _) _⟩
        · have dq : decide (m.S < absI (v - u)) = false := by rw [abs_step, hq]; rfl
          have HS := Lib.hid (show stepAt m.S xs k = true by rw [step_is HV.out HU.out h3]; exact hq)
          clear hq
          by_cases h4 : v = u
          · have HR := Lib.hid (run_on HV.out HU.out h4)
            have h4' : (v != u) = false := by simp [h4]
            clear h4
            rcases h5 : decide (m.M < (runAt xs k : Int) + 1) with _ | _
            · have HN := Lib.hid (both_next hall.out HS.out (by unfold runOk; rw [HR.out]; simp at h5 ⊢; omega))
              go_wp2
              go_quiet (fail)
              go_wp2
              go_quiet ((go_at_call 126; exact quiet_add_left (l01Abs_any _ _ (by omega) (by omega))))
              clear s1 s2 s3 s4 s5 s6
              go_wp2
              go_roundw
              case rel => exact ⟨k + 1, by omega, by go_num, by rw [HR.out]; go_num, HN, HX.out.drewN _, below_drewN hb _⟩
              case measure => simp [intOf]; omega
            · have HF := Lib.hid (begins_no4 (m := m) HL.out hlt (by unfold runOk; rw [HR.out]; simp at h5 ⊢; omega))
              go_wp2
              go_quiet (fail)
              go_wp2
              go_quiet ((go_at_call 126; exact quiet_add_left (l01Abs_any _ _ (by omega) (by omega))))
              clear s1 s2 s3 s4 s5 s6
              go_wp2
              go_ret
              exact ⟨ret_bool HF.out.symm, below_drewN (below_drewN hb _) _⟩
          · have HR := Lib.hid (run_new HV.out HU.out h3 h4)
            have h4' : (v != u) = true := by simp [h4]
            clear h4
            have h5 : decide (m.M < 1) = false := by simp; omega
            have HN := Lib.hid (both_next hall.out HS.out (by unfold runOk; rw [HR.out]; simp; omega))
            go_wp2
            go_quiet (fail)
            go_wp2
            go_quiet ((go_at_call 126; exact quiet_add_left (l01Abs_any _ _ (by omega) (by omega))))
            clear s1 s2 s3 s4 s5 s6
            go_wp2
            go_roundw
            case rel => exact ⟨k + 1, by omega, by go_num, by rw [HR.out]; go_num, HN, HX.out.drewN _, below_drewN hb _⟩
            case measure => simp [intOf]; omega
      · have d3 : decide (0 < k) = false := by simpa using h3
        have HR := Lib.hid (run_first (xs := xs) h3)
        have h5 : decide (m.M < (runAt xs k : Int) + 1) = false := by simp; omega
        have HN := Lib.hid (both_next hall.out (step_first' (S := m.S) (xs := xs) h3) (by unfold runOk; rw [HR.out]; simp; omega))
        go_wp2
        go_quiet (fail)
        go_wp2
        go_quiet (fail)
        go_wp2
        go_roundw
        case rel => exact ⟨k + 1, by omega, by go_num, by rw [HR.out]; go_num, HN, HX.out.drewN _, below_drewN hb _⟩
        case measure => simp [intOf]; omega
    · have HF := Lib.hid (begins_yes HL.out hlt hall.out)
      go_wp2
      go_ret
      exact ⟨ret_bool HF.out.symm, hb⟩

end Go.Proofs.Ytjoknbknhfnggaa
