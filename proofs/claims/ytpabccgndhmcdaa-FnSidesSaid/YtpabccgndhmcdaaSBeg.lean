/- l02Begins of the model: its contract. -/
import Derived.Test.YtpabccgndhmcdaaKeyMath
namespace Go.Proofs.Ytpabccgndhmcdaa
open Go.RowKit

theorem begins_no3 {m : Mk} {xs : List Int} {k n : Nat} (hl : xs.length = n) (hk : k < n) (h : stepAt m.S xs k = false) : beginsB m xs = false := by
  unfold beginsB
  rw [show stepsB m.S xs = false from not_all_range (by rw [hl]; exact hk) h]; rfl
theorem begins_no4 {m : Mk} {xs : List Int} {k n : Nat} (hl : xs.length = n) (hk : k < n) (h : runOk m.M xs k = false) : beginsB m xs = false := by
  unfold beginsB
  rw [show runsB m.M xs = false from not_all_range (by rw [hl]; exact hk) h, Bool.and_false]
theorem begins_yes {m : Mk} {xs : List Int} {k n : Nat} (hl : xs.length = n) (hk : ¬ k < n) (h : ∀ j, j < k → (stepAt m.S xs j && runOk m.M xs j) = true) : beginsB m xs = true := by
  unfold beginsB
  rw [show stepsB m.S xs = true from all_range (k := k) (by rw [hl]; exact hk) (fun j hj => (Bool.and_eq_true_iff.1 (h j hj)).1), show runsB m.M xs = true from all_range (k := k) (by rw [hl]; exact hk) (fun j hj => (Bool.and_eq_true_iff.1 (h j hj)).2)]
  rfl
theorem both_next {m : Mk} {xs : List Int} {k : Nat} (h : ∀ j, j < k → (stepAt m.S xs j && runOk m.M xs j) = true) (h3 : stepAt m.S xs k = true) (h4 : runOk m.M xs k = true) : ∀ j, j < k + 1 → (stepAt m.S xs j && runOk m.M xs j) = true :=
  all_next (p := fun j => stepAt m.S xs j && runOk m.M xs j) h (by simp [h3, h4])

end Go.Proofs.Ytpabccgndhmcdaa
