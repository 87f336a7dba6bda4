/- mayBegin of the program. -/
import Derived.Test.YtpabccgndhmcdaaKeyMath
namespace Go.Proofs.Ytpabccgndhmcdaa
open Go.RowKit

theorem may_no {m : Mk} {xs : List Int} {k : Nat} (hall : ∀ j, 1 ≤ j → j < k + 1 → ruleB m xs j = true) (hk : k < 4) (h : ruleB m xs (k + 1) = false) : mayB m xs = false := by
  match k, hk, h with
  | 0, _, h => unfold mayB; rw [show allIn 0 (m.D - 1) xs = false from h]; rfl
  | 1, _, h => unfold mayB; rw [show stepsB m.S xs = false from h]; simp
  | 2, _, h => unfold mayB; rw [show runsB m.M xs = false from h]; simp
  | 3, _, h => unfold mayB; rw [show decide (m.L ≤ m.C - xs.length + kinds xs) = false from h]; simp
theorem may_yes {m : Mk} {xs : List Int} {k : Nat} (hall : ∀ j, 1 ≤ j → j < k + 1 → ruleB m xs j = true) (hk : ¬ k < 4) : mayB m xs = true := by
  unfold mayB
  rw [show allIn 0 (m.D - 1) xs = true from hall 1 (by omega) (by omega), show stepsB m.S xs = true from hall 2 (by omega) (by omega), show runsB m.M xs = true from hall 3 (by omega) (by omega), show decide (m.L ≤ m.C - xs.length + kinds xs) = true from hall 4 (by omega) (by omega)]
  rfl
theorem rules_next {m : Mk} {xs : List Int} {k : Nat} (hall : ∀ j, 1 ≤ j → j < k + 1 → ruleB m xs j = true) (h : ruleB m xs (k + 1) = true) : ∀ j, 1 ≤ j → j < k + 1 + 1 → ruleB m xs j = true := by
  intro j h1 h2
  by_cases e : j = k + 1
  · subst e; exact h
  · exact hall j h1 (by omega)
end Go.Proofs.Ytpabccgndhmcdaa
