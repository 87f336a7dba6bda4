/- SumOf of the program and of the model answer alike: contracts and the law's walk. -/
import Derived.Test.YtidjnnooeepklaaOwn
namespace Go.Proofs.Ytidjnnooeepklaa
open Go.RowKit

theorem sum_take {xs : List Int} {k : Nat} {v : Int} (hv : xs[k]? = some v) : (xs.take (k + 1)).sum = (xs.take k).sum + v := by
  obtain ⟨hk, rfl⟩ := List.getElem?_eq_some_iff.1 hv
  rw [List.take_succ_eq_append_getElem hk, List.sum_append]
  simp only [List.sum_cons, List.sum_nil]; omega
theorem sum_range {xs : List Int} (h : allIn 0 1000000000000 xs = true) (k : Nat) (hk : k ≤ xs.length) : 0 ≤ (xs.take k).sum ∧ (xs.take k).sum ≤ k * 1000000000000 := by
  induction k with
  | zero => simp
  | succ k ih =>
    have hv : xs[k]? = some xs[k] := List.getElem?_eq_getElem (by omega)
    have := allIn_at h hv
    have := ih (by omega)
    rw [sum_take hv]
    omega
def sumV (xs : List Int) : Int := if withB 0 1000000000000 xs then resV xs.sum else 0
def sumE (xs : List Int) : Int := if withB 0 1000000000000 xs then resC xs.sum else 2
theorem sum_no {xs : List Int} (h : withB 0 1000000000000 xs = false) : sumV xs = 0 ∧ sumE xs = 2 := by simp [sumV, sumE, h]
theorem sum_yes {xs : List Int} (h : withB 0 1000000000000 xs = true) : sumV xs = resV xs.sum ∧ sumE xs = resC xs.sum := by simp [sumV, sumE, h]

theorem l01Sum_any (A : Option Addr) (n c : Nat) (xs : List Int) (w : World) (h : Ints w w.heap.size A n xs) (hall : allIn 0 1000000000000 xs = true) (hs : n ≤ 100) :
    Calls Try.prog 93 #[.slice A n c] w fun e w' => e = .returned (.int .i64 xs.sum) ∧ w = w' := by
  have HL := Lib.hid h.len
  have HA := Lib.hid hall
  clear hall
  go_enter Try.func93, Try.ntmps93
  go_wp2
  go_loop [3, 4] (fun s i => ∃ k : Nat, k ≤ n ∧ i = .int .i64 k ∧ s = .int .i64 (xs.take k).sum) (fun _ i => n - (intOf i).toNat)
  case atStart => exact ⟨0, Nat.zero_le _, rfl, rfl⟩
  case round =>
    obtain ⟨k, hk, rfl, rfl⟩ := hrel
    have hl := HL.out
    obtain ⟨r0, r1⟩ := sum_range HA.out k (by omega)
    by_cases hlt : k < n
    · obtain ⟨ad, v, rfl, hab, hv, hc⟩ := h.at_ hlt
      obtain ⟨v0, v1⟩ := allIn_at HA.out hv
      have r2 : (xs.take k).sum ≤ 100000000000000 := by omega
      have HT := Lib.hid (sum_take hv)
      clear hv hl
      go_wp2
      go_round
      case rel => exact ⟨k + 1, by omega, by go_num, by rw [HT.out]⟩
      case measure => simp [intOf]; omega
    · have HX := Lib.hid (take_end HL.out hlt)
      clear hl
      go_wp2
      go_ret
      exact ⟨ret_int (by rw [HX.out]), rfl⟩

end Go.Proofs.Ytidjnnooeepklaa
