/- KeyFault and IsKey of the model: contracts. -/
import Derived.Test.YtlgaocjcfdfhmaaFault
namespace Go.Proofs.Ytlgaocjcfdfhmaa
open Go.RowKit

def isKeyB (m : Mk) (xs : List Int) : Bool := m.ok && (faultV m xs == 0)
theorem isKey_any (m : Mk) (A : Option Addr) (n c : Nat) (xs : List Int) (w : World) (h : Ints w w.heap.size A n xs) (hn : n ≤ 1048576) :
    Calls Try.prog 31 #[.agg #[.int .i64 m.C, .int .i64 m.D, .int .i64 m.S, .int .i64 m.M, .int .i64 m.L], .slice A n c] w
      fun e w' => e = .returned (.bool (isKeyB m xs)) ∧ Below w.heap.size w w' := by
  have b0 := (Below.refl w.heap.size w).alloc (Nat.le_refl _) (.cells #[.int .i64 m.C, .int .i64 m.D, .int .i64 m.S, .int .i64 m.M, .int .i64 m.L] 25)
  have h0 := h.on b0
  rcases hm : m.ok with _ | _
  all_goals
    have e1 : kfE m = (if m.ok then 0 else 1) := rfl
    have e2 : kfV m xs = (if m.ok then faultV m xs else 0) := rfl
    have e3 : isKeyB m xs = (m.ok && (faultV m xs == 0)) := rfl
    rw [hm] at e1 e2 e3
    rw [e3]
    clear e3
    simp only [if_true, if_false, Bool.false_eq_true, Bool.true_and, Bool.false_and] at e1 e2 ⊢
    have E1 := Lib.hid e1
    have E2 := Lib.hid e2
    clear e1 e2 hm
    go_enter Try.func31, Try.ntmps31
    go_wp2_with fail
    refine (keyFault_any m _ _ _ xs _ h0 hn).mono ?_
    rw [E1.out, E2.out]
    rintro e w1 ⟨rfl, b1⟩
    have c1 := below_trans' b0 b1
    go_wp2
    go_ret
    exact ⟨rfl, c1⟩

def absI (x : Int) : Int := if x < 0 then -x else x
theorem l01Abs_any (x : Int) (w : World) (x0 : -1000000000000 ≤ x) (x1 : x ≤ 1000000000000) :
    Calls Try.prog 91 #[.int .i64 x] w fun e w' => e = .returned (.int .i64 (absI x)) ∧ w = w' := by
  by_cases h : x < 0
  · go_enter Try.func91, Try.ntmps91
    go_wp2
    go_ret
    exact ⟨ret_int (by unfold absI; omega), rfl⟩
  · go_enter Try.func91, Try.ntmps91
    go_wp2
    go_ret
    exact ⟨ret_int (by unfold absI; omega), rfl⟩
theorem abs_step {S x : Int} : decide (S < absI x) = !inB x (-S) S := by
  unfold absI inB
  by_cases h : x < 0
  · rw [if_pos h, Bool.eq_iff_iff]; simp; omega
  · rw [if_neg h, Bool.eq_iff_iff]; simp; omega

theorem l01Has_any (A : Option Addr) (n c : Nat) (xs : List Int) (x : Int) (w : World) (h : Ints w w.heap.size A n xs) (hn : n ≤ 1048576) :
    Calls Try.prog 96 #[.slice A n c, .int .i64 x] w fun e w' => e = .returned (.bool (xs.any (fun y => decide (y = x)))) ∧ w = w' := by
  have HL := Lib.hid h.len
  go_enter Try.func96, Try.ntmps96
  go_wp2
  go_loop [5] (fun i => ∃ k : Nat, k ≤ n ∧ i = .int .i64 k ∧ Hid ((xs.take k).any (fun y => decide (y = x)) = false)) (fun i => n - (intOf i).toNat)
  case atStart => exact ⟨0, Nat.zero_le _, rfl, Lib.hid rfl⟩
  case round =>
    obtain ⟨k, hk, rfl, hall⟩ := hrel
    by_cases hlt : k < n
    · obtain ⟨ad, v, rfl, hab, hv, hc⟩ := h.at_ hlt
      have HV := Lib.hid hv
      clear hv
      rcases hq : (v == x) with _ | _
      · have hne : ¬ v = x := by simpa using hq
        have HN := Lib.hid hne
        clear hne
        go_wp2
        go_round
        case rel => exact ⟨k + 1, by omega, by go_num, Lib.hid (by
          obtain ⟨hk', hv'⟩ := List.getElem?_eq_some_iff.1 HV.out
          rw [List.take_succ_eq_append_getElem hk', List.any_append, hall.out, hv']
          simp [HN.out])⟩
        case measure => simp [intOf]; omega
      · have he : v = x := by simpa using hq
        have HE := Lib.hid he
        clear he
        go_wp2
        go_ret
        exact ⟨ret_bool (by
          rw [eq_comm, List.any_eq_true]
          exact ⟨v, List.mem_of_getElem? HV.out, by simp [HE.out]⟩), rfl⟩
    · have HA : Hid (xs.any (fun y => decide (y = x)) = false) := by rw [← take_end HL.out hlt]; exact hall
      clear hall
      go_wp2
      go_ret
      exact ⟨ret_bool HA.out.symm, rfl⟩

theorem l01Has_at (A : Option Addr) (n c : Nat) (xs : List Int) (x : Int) (w : World) (q : Bool) (h : Ints w w.heap.size A n xs) (hn : n ≤ 1048576) (hq : xs.any (fun y => decide (y = x)) = q) :
    Calls Try.prog 96 #[.slice A n c, .int .i64 x] w fun e w' => e = .returned (.bool q) ∧ w = w' := by
  subst hq; exact l01Has_any A n c xs x w h hn
theorem Ints.front {w : World} {B n k : Nat} {A : Option Addr} {xs : List Int} (h : Ints w B A n xs) (hk : k ≤ n) : Ints w B A k (xs.take k) := by
  refine ⟨by rw [List.length_take, h.len]; omega, fun h0 => ?_⟩
  obtain ⟨ad, e, hb, hc⟩ := h.2 (by omega)
  refine ⟨ad, e, hb, fun j v hv => hc j v ?_⟩
  rw [List.getElem?_take] at hv
  split at hv
  · exact hv
  · cases hv

set_option maxRecDepth 100000 in
theorem l02Kinds_any (A : Option Addr) (n c : Nat) (xs : List Int) (w : World) (h : Ints w w.heap.size A n xs) (hn : n ≤ 1048576) (hc0 : n ≤ c) (hcm : c ≤ 9223372036854775807) :
    Calls Try.prog 87 #[.slice A n c] w fun e w' => e = .returned (.int .i64 (kinds xs)) ∧ ∃ q, w' = w.drewN q := by
  have HL := Lib.hid h.len
  go_enter Try.func87, Try.ntmps87
  go_wp2
  go_loopw [3, 4] (fun r i wr => ∃ k q : Nat, k ≤ n ∧ i = .int .i64 k ∧ r = .int .i64 (kindsAt xs k) ∧ wr = w.drewN q) (fun _ i _ => n - (intOf i).toNat)
  case atStart => exact ⟨0, 0, Nat.zero_le _, rfl, rfl, rfl⟩
  case round =>
    obtain ⟨k, q, hk, rfl, rfl, rfl⟩ := hrel
    have hr := kindsAt_le xs k
    by_cases hlt : k < n
    · obtain ⟨ad, v, rfl, hab, hv, hc⟩ := h.at_ hlt
      have hF := h.front hk
      have HV := Lib.hid hv
      clear hv
      have i0 : (0 : Int) ≤ (k : Int) := by omega
      have i1 : (k : Int) < (n : Int) := by omega
      have i2 : (k : Int) ≤ (c : Int) := by omega
      rcases hs : seenB xs k v with _ | _
      · have HK := Lib.hid (kinds_new HV.out hs)
        go_wp2
        go_quiet ((go_at_call 96; exact quiet_add_left (l01Has_at _ _ _ (xs.take k) _ _ _ hF (by omega) hs)))
        go_wp2
        go_roundw
        case rel => exact ⟨k + 1, _, by omega, by go_num, by rw [HK.out]; go_num, rfl⟩
        case measure => simp [intOf]; omega
      · have HK := Lib.hid (kinds_old HV.out hs)
        go_wp2
        go_quiet ((go_at_call 96; exact quiet_add_left (l01Has_at _ _ _ (xs.take k) _ _ _ hF (by omega) hs)))
        go_wp2
        go_roundw
        case rel => exact ⟨k + 1, _, by omega, by go_num, by rw [HK.out], rfl⟩
        case measure => simp [intOf]; omega
    · have HK := Lib.hid (show k = n by omega)
      go_wp2
      go_ret
      exact ⟨ret_int (by unfold kinds; rw [HL.out, HK.out]), q, rfl⟩

end Go.Proofs.Ytlgaocjcfdfhmaa
