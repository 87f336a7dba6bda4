/- l01Same of the model: whether two lists are equal. -/
import Derived.Test.YtidjnnooeepklaaOwn
import Derived.Deep.LoopGhost
import Derived.BigQuiet
namespace Go.Proofs.Ytidjnnooeepklaa
open Go Go.RowKit

theorem take_sameS {xs ys : List Int} {k : Nat} {v v' : Int} (h : xs.take k = ys.take k) (hv : xs[k]? = some v) (hv' : ys[k]? = some v') (e : v = v') : xs.take (k + 1) = ys.take (k + 1) := by
  obtain ⟨h1, rfl⟩ := List.getElem?_eq_some_iff.1 hv
  obtain ⟨h2, rfl⟩ := List.getElem?_eq_some_iff.1 hv'
  rw [List.take_succ_eq_append_getElem h1, List.take_succ_eq_append_getElem h2, h, e]

set_option maxHeartbeats 2000000 in
theorem sameS_len (A A' : Option Addr) (n c c' : Nat) (xs ys : List Int) (w : World) (h : Ints w w.heap.size A n xs) (h' : Ints w w.heap.size A' n ys) (hn : n ≤ 1048576) :
    Calls Try.prog 86 #[.slice A n c, .slice A' n c'] w fun e w' => e = .returned (.bool (decide (xs = ys))) ∧ ∃ q, w' = w.drewN q := by
  have HL := Lib.hid (And.intro h.len h'.len)
  go_enter Try.func86, Try.ntmps86
  go_wp2
  go_loopw [5] (fun i wr => ∃ k q : Nat, k ≤ n ∧ i = .int .i64 k ∧ Hid (xs.take k = ys.take k) ∧ wr = w.drewN q) (fun i _ => n - (intOf i).toNat)
  case atStart => exact ⟨0, 0, Nat.zero_le _, rfl, Lib.hid rfl, rfl⟩
  case round =>
    obtain ⟨k, q, hk, rfl, hs, rfl⟩ := hrel
    by_cases hlt : k < n
    · obtain ⟨ad, v, rfl, hab, hv, hc⟩ := h.at_ hlt
      obtain ⟨ad', v', rfl, hab', hv', hc'⟩ := h'.at_ hlt
      have i0 : (0 : Int) ≤ (k : Int) := by omega
      have i1 : (k : Int) < (n : Int) := by omega
      by_cases e : v = v'
      · have HS := Lib.hid (take_sameS hs.out hv hv' e)
        clear hv hv'
        subst e
        go_wp2
        go_quiet (fail)
        go_wp2
        go_roundw
        case rel => exact ⟨k + 1, _, by omega, by go_num, HS, rfl⟩
        case measure => simp [intOf]; omega
      · have HE : Hid (decide (xs = ys) = false) := Lib.hid (decide_eq_false (fun h => e (by rw [h, hv'] at hv; injection hv with hv; exact hv.symm)))
        clear hv hv'
        go_wp2
        go_quiet (fail)
        go_wp2
        go_ret
        exact ⟨ret_bool HE.out.symm, _, World.drewN_drewN _ _ _⟩
    · have HE : Hid (decide (xs = ys) = true) := Lib.hid (decide_eq_true (by
        have := hs.out
        rwa [List.take_of_length_le (by rw [HL.out.1]; omega), List.take_of_length_le (by rw [HL.out.2]; omega)] at this))
      go_wp2
      go_ret
      exact ⟨ret_bool HE.out.symm, q, rfl⟩

theorem sameS_any (A A' : Option Addr) (n n' c c' : Nat) (xs ys : List Int) (w : World) (h : Ints w w.heap.size A n xs) (h' : Ints w w.heap.size A' n' ys) (hn : n ≤ 1048576) :
    Calls Try.prog 86 #[.slice A n c, .slice A' n' c'] w fun e w' => e = .returned (.bool (decide (xs = ys))) ∧ ∃ q, w' = w.drewN q := by
  by_cases hne : n = n'
  · subst hne
    exact sameS_len A A' n c c' xs ys w h h' hn
  · have HE : Hid (decide (xs = ys) = false) := Lib.hid (decide_eq_false (fun e => hne (by rw [← h.len, ← h'.len, e])))
    clear h h'
    have d1 : ((n : Int) != (n' : Int)) = true := by simp; omega
    go_enter Try.func86, Try.ntmps86
    go_wp2
    go_ret
    exact ⟨ret_bool HE.out.symm, 0, rfl⟩

end Go.Proofs.Ytidjnnooeepklaa
