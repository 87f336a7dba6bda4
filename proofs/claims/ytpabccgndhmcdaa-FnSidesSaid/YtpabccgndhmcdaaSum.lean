/- SumOf of the program and of the model answer alike: contracts and the law's walk. -/
import Derived.Test.YtpabccgndhmcdaaList
namespace Go.Proofs.Ytpabccgndhmcdaa
open Go.RowKit

theorem sum_take {xs : List Int} {k : Nat} {v : Int} (hv : xs[k]? = some v) : (xs.take (k + 1)).sum = (xs.take k).sum + v := by
  obtain ⟨hk, rfl⟩ := List.getElem?_eq_some_iff.1 hv
  rw [List.take_succ_eq_append_getElem hk, List.sum_append]
  simp only [List.sum_cons, List.sum_nil]; omega
theorem sum_range {xs : List Int} (h : allIn 0 1000000000000 xs = true) (k : Nat) (hk : k ≤ xs.length) : 0 ≤ (xs.take k).sum ∧ (xs.take k).sum ≤ k * 1000000000000 := by
  induction k with
  | zero => simp
  | succ k ih =>
    have hv : xs[k]? = some xs[k] := List.getElem?_eq_getElem (by omega)
    have := allIn_at h hv
    have := ih (by omega)
    rw [sum_take hv]
    omega
def sumV (xs : List Int) : Int := if withB 0 1000000000000 xs then resV xs.sum else 0
def sumE (xs : List Int) : Int := if withB 0 1000000000000 xs then resC xs.sum else 2
theorem sum_no {xs : List Int} (h : withB 0 1000000000000 xs = false) : sumV xs = 0 ∧ sumE xs = 2 := by simp [sumV, sumE, h]
theorem sum_yes {xs : List Int} (h : withB 0 1000000000000 xs = true) : sumV xs = resV xs.sum ∧ sumE xs = resC xs.sum := by simp [sumV, sumE, h]

end Go.Proofs.Ytpabccgndhmcdaa
