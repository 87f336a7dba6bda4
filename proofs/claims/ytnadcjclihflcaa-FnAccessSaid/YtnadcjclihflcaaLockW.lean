/- The laws' functions on locks. -/
import Derived.Test.YtnadcjclihflcaaSets
import Derived.Test.YtnadcjclihflcaaDraw
namespace Go.Proofs.Ytnadcjclihflcaa
open Go.RowKit

theorem likeInts_quiet' (A A' : Option Addr) (n c c' : Nat) (xs : List Int) (w : World) (h : Ints w w.heap.size A n xs) (h' : Ints w w.heap.size A' n xs) (hn : n ≤ 1048576) :
    Calls Try.prog 33 #[.slice A n c, .slice A' n c'] w fun e w' => e = .returned (.bool true) ∧ ∃ q, w' = w.drewN q := by
  go_enter Try.func33, Try.ntmps33
  go_wp2
  go_loopw [5] (fun i wr => ∃ k q : Nat, k ≤ n ∧ i = .int .i64 k ∧ wr = w.drewN q) (fun i _ => n - (intOf i).toNat)
  case atStart => exact ⟨0, 0, Nat.zero_le _, rfl, rfl⟩
  case round =>
    obtain ⟨k, q, hk, rfl, rfl⟩ := hrel
    by_cases hlt : k < n
    · obtain ⟨ad, v, rfl, hab, hv, hc⟩ := h.at_ hlt
      obtain ⟨ad', v', rfl, hab', hv', hc'⟩ := h'.at_ hlt
      obtain rfl : v = v' := by rw [hv] at hv'; injection hv'
      clear hv hv'
      go_wp2
      go_quiet (fail)
      go_wp2
      go_roundw
      case rel => exact ⟨k + 1, _, by omega, by go_num, rfl⟩
      case measure => simp [intOf]; omega
    · go_wp2
      go_ret
      exact ⟨rfl, q, rfl⟩

theorem likeSets_true (V V' : Option Addr) (n c c' : Nat) (yss : List (List Int)) (w : World) (h : Sets w w.heap.size V n yss) (h' : Sets w w.heap.size V' n yss) (hn : n + sizeL yss ≤ 1048576) :
    Calls Try.prog 32 #[.slice V n c, .slice V' n c'] w fun e w' => e = .returned (.bool true) ∧ ∃ q, w' = w.drewN q := by
  have HN := Lib.hid hn
  have hn1 : n ≤ 1048576 := by omega
  clear hn
  go_enter Try.func32, Try.ntmps32
  go_wp2
  go_loopw [5] (fun i wr => ∃ k q : Nat, k ≤ n ∧ i = .int .i64 k ∧ wr = w.drewN q) (fun i _ => n - (intOf i).toNat)
  case atStart => exact ⟨0, 0, Nat.zero_le _, rfl, rfl⟩
  case round =>
    obtain ⟨k, q, hk, rfl, rfl⟩ := hrel
    by_cases hlt : k < n
    · obtain ⟨ad, ys, A1, q1, c1, rfl, _, hy, hc, hi, _, _⟩ := h.at_ hlt
      obtain ⟨ad', ys', A2, q2, c2, rfl, _, hy', hc', hi', _, _⟩ := h'.at_ hlt
      obtain rfl : ys = ys' := by rw [hy] at hy'; injection hy'
      obtain rfl : q1 = q2 := by rw [← hi.len, ← hi'.len]
      have hq1 : q1 ≤ 1048576 := by have := fits_at HN.out hy; have := hi.len; omega
      have HI := Lib.hid hi
      have HI' := Lib.hid hi'
      have i0 : (0 : Int) ≤ (k : Int) := by omega
      have i1 : (k : Int) < (n : Int) := by omega
      clear hy hy' hi hi'
      go_wp2
      go_quiet ((go_at_call 33; exact quiet_add_on (likeInts_quiet' _ _ _ _ _ ys _ (ints_drewN HI.out _) (ints_drewN HI'.out _) hq1)))
      go_wp2
      go_roundw
      case rel => exact ⟨k + 1, _, by omega, by go_num, rfl⟩
      case measure => simp [intOf]; omega
    · go_wp2
      go_ret
      exact ⟨rfl, q, rfl⟩

end Go.Proofs.Ytnadcjclihflcaa
