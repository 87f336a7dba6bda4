/- Lists of lists compared. -/
import Derived.Test.YtnblifpogbhjgaaLKeys
import Derived.Test.YtnblifpogbhjgaaFnBase
namespace Go.Proofs.Ytnblifpogbhjgaa
open Go.RowKit

theorem likeInts_quiet (A A' : Option Addr) (n c c' : Nat) (xs : List Int) (w : World) (h : Ints w w.heap.size A n xs) (h' : Ints w w.heap.size A' n xs) (hn : n ≤ 1048576) :
    Calls Try.prog 24 #[.slice A n c, .slice A' n c'] w fun e w' => e = .returned (.bool true) ∧ ∃ q, w' = w.drewN q := by
  go_enter Try.func24, Try.ntmps24
  go_wp2
  go_loopw [5] (fun i wr => ∃ k q : Nat, k ≤ n ∧ i = .int .i64 k ∧ wr = w.drewN q) (fun i _ => n - (intOf i).toNat)
  case atStart => exact ⟨0, 0, Nat.zero_le _, rfl, rfl⟩
  case round =>
    obtain ⟨k, q, hk, rfl, rfl⟩ := hrel
    by_cases hlt : k < n
    · obtain ⟨ad, v, rfl, hab, hv, hc⟩ := h.at_ hlt
      obtain ⟨ad', v', rfl, hab', hv', hc'⟩ := h'.at_ hlt
      obtain rfl : v = v' := by rw [hv] at hv'; injection hv'
      clear hv hv'
      go_wp2
      go_quiet (fail)
      go_wp2
      go_roundw
      case rel => exact ⟨k + 1, _, by omega, by go_num, rfl⟩
      case measure => simp [intOf]; omega
    · go_wp2
      go_ret
      exact ⟨rfl, q, rfl⟩

set_option maxRecDepth 100000 in
theorem likeLists_true (V V' : Option Addr) (n c c' p lo lo' : Nat) (gs gs' : List (Addr × Nat)) (yss : List (List Int)) (w : World) (h : Pile w lo (.slice V n c) n p gs yss) (h' : Pile w lo' (.slice V' n c') n p gs' yss) (hn : n ≤ 1048576) (hp : n = 0 ∨ p ≤ 6) :
    Calls Try.prog 34 #[.slice V n c, .slice V' n c'] w fun e w' => e = .returned (.bool true) ∧ ∃ q, w' = w.drewN q := by
  go_enter Try.func34, Try.ntmps34
  go_wp2
  go_loopw [5] (fun i wr => ∃ k q : Nat, k ≤ n ∧ i = .int .i64 k ∧ wr = w.drewN q) (fun i _ => n - (intOf i).toNat)
  case atStart => exact ⟨0, 0, Nat.zero_le _, rfl, rfl⟩
  case round =>
    obtain ⟨k, q, hk, rfl, rfl⟩ := hrel
    by_cases hlt : k < n
    · obtain ⟨ad, a, ys, rfl, _, hy, hc, hs⟩ := h.at_ hlt
      obtain ⟨ad', a', ys', rfl, _, hy', hc', hs'⟩ := h'.at_ hlt
      obtain rfl : ys = ys' := by rw [hy] at hy'; injection hy'
      have HS := Lib.hid hs
      have HS' := Lib.hid hs'
      have hp6 : p ≤ 6 := by omega
      have i0 : (0 : Int) ≤ (k : Int) := by omega
      have i1 : (k : Int) < (n : Int) := by omega
      clear hy hy' hs hs'
      go_wp2
      go_quiet ((go_at_call 24; exact quiet_add_on (likeInts_quiet _ _ _ _ _ ys _ (ints_drewN (Own.ints HS.out) _) (ints_drewN (Own.ints HS'.out) _) (by omega))))
      go_wp2
      go_roundw
      case rel => exact ⟨k + 1, _, by omega, by go_num, rfl⟩
      case measure => simp [intOf]; omega
    · go_wp2
      go_ret
      exact ⟨rfl, q, rfl⟩

end Go.Proofs.Ytnblifpogbhjgaa
