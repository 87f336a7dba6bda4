/- KeyFault and IsKey of the program. -/
import Derived.Test.YtpabccgndhmcdaaRule
import Derived.Laws.EntriesVeiled
namespace Go.Proofs.Ytpabccgndhmcdaa
open Go.RowKit

/-- the rules by their places -/
def ruleB (m : Mk) (xs : List Int) : Nat → Bool
  | 0 => (xs.length : Int) == m.C
  | 1 => allIn 0 (m.D - 1) xs
  | 2 => stepsB m.S xs
  | 3 => runsB m.M xs
  | _ => decide (m.L ≤ m.C - xs.length + kinds xs)
theorem fault_at {m : Mk} {xs : List Int} {k : Nat} (hall : ∀ j, j < k → ruleB m xs j = true) (hk : k < 5) (h : ruleB m xs k = false) : faultV m xs = (k : Int) + 1 := by
  have g : ∀ j, j < k → ruleB m xs j = true := hall
  match k, hk, h with
  | 0, _, h => exact fault1 (by unfold ruleB at h; simpa using h)
  | 1, _, h => exact fault2 (by have := g 0 (by omega); unfold ruleB at this; simpa using this) h
  | 2, _, h => exact fault3 (by have := g 0 (by omega); unfold ruleB at this; simpa using this) (g 1 (by omega)) h
  | 3, _, h => exact fault4 (by have := g 0 (by omega); unfold ruleB at this; simpa using this) (g 1 (by omega)) (g 2 (by omega)) h
  | 4, _, h =>
    have e : (xs.length : Int) = m.C := by have := g 0 (by omega); unfold ruleB at this; simpa using this
    exact fault5 e (g 1 (by omega)) (g 2 (by omega)) (g 3 (by omega)) (by unfold ruleB at h; simp at h; omega)
theorem fault_none {m : Mk} {xs : List Int} {k : Nat} (hall : ∀ j, j < k → ruleB m xs j = true) (hk : ¬ k < 5) : faultV m xs = 0 := by
  have g : ∀ j, j < 5 → ruleB m xs j = true := fun j hj => hall j (by omega)
  have e : (xs.length : Int) = m.C := by have := g 0 (by omega); unfold ruleB at this; simpa using this
  exact fault0 e (g 1 (by omega)) (g 2 (by omega)) (g 3 (by omega)) (by have := g 4 (by omega); unfold ruleB at this; simp at this; omega)

def kfV (m : Mk) (xs : List Int) : Int := if m.ok then faultV m xs else 0
def kfE (m : Mk) : Int := if m.ok then 0 else 1

end Go.Proofs.Ytpabccgndhmcdaa
