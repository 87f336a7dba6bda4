/- l02Count and CountKeys of the model. -/
import Derived.Test.YtbfnffecmglgfaaSNext
namespace Go.Proofs.Ytbfnffecmglgfaa
open Go.RowKit

theorem flat_len {f : Nat → List (List Int)} {B : Nat} (h : ∀ d, (f d).length ≤ B) : ∀ l : List Nat, (l.flatMap f).length ≤ l.length * B
  | [] => by simp
  | a :: l => by
    rw [List.flatMap_cons, List.length_append, List.length_cons, Nat.succ_mul]
    have := flat_len h l
    have := h a
    omega
theorem keys_count {m : Mk} (hD : m.D ≤ 8) : ∀ (k : Nat) (xs : List Int), (keysFrom m k xs).length ≤ 8 ^ k
  | 0, xs => by unfold keysFrom; split <;> simp
  | k + 1, xs => by
    unfold keysFrom
    split
    · have h := flat_len (f := fun (d : Nat) => keysFrom m k (xs ++ [(d : Int)])) (B := 8 ^ k) (fun d => keys_count hD k _) (List.range m.D.toNat)
      rw [List.length_range] at h
      refine Nat.le_trans h ?_
      rw [Nat.pow_succ, Nat.mul_comm]
      exact Nat.mul_le_mul_left _ (by omega)
    · simp
theorem pow8 {k : Nat} (h : k ≤ 6) : 8 ^ k ≤ 262144 := by
  have := Nat.pow_le_pow_right (n := 8) (by decide) h
  simpa using this

def cntV (m : Mk) : Int := if m.ok then ((allKeys m).length : Int) else 0
def cntE (m : Mk) : Int := if m.ok then 0 else 1
theorem cnt_bad {m : Mk} (h : m.ok = false) : cntV m = 0 ∧ cntE m = 1 := by simp [cntV, cntE, h]
theorem cnt_yes {m : Mk} (h : m.ok = true) : cntV m = ((allKeys m).length : Int) ∧ cntE m = 0 := by simp [cntV, cntE, h]

end Go.Proofs.Ytbfnffecmglgfaa
