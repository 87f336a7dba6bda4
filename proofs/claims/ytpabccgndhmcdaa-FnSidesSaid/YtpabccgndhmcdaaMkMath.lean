/- Cuts of a key: the five rules, as plain functions of lists. No program text. -/
import Derived.Test.YtpabccgndhmcdaaList
import Derived.Test.YtpabccgndhmcdaaMk
namespace Go.Proofs.Ytpabccgndhmcdaa

theorem getD_at {xs : List Int} {k : Nat} {v : Int} (hv : xs[k]? = some v) : xs.getD k 0 = v := by
  rw [List.getD_eq_getElem?_getD, hv]; rfl
theorem not_all_range {p : Nat → Bool} {n k : Nat} (hk : k < n) (h : p k = false) : (List.range n).all p = false := by
  rw [List.all_eq_false]
  exact ⟨k, by simp; omega, by simp [h]⟩
theorem all_range {p : Nat → Bool} {n k : Nat} (hk : ¬ k < n) (h : ∀ j, j < k → p j = true) : (List.range n).all p = true := by
  rw [List.all_eq_true]
  intro j hj
  exact h j (by have := List.mem_range.1 hj; omega)
theorem all_next {p : Nat → Bool} {k : Nat} (h : ∀ j, j < k → p j = true) (hk : p k = true) : ∀ j, j < k + 1 → p j = true := by
  intro j hj
  by_cases e : j = k
  · subst e; exact hk
  · exact h j (by omega)
theorem all_range_at {p : Nat → Bool} {n k : Nat} (h : (List.range n).all p = true) (hk : k < n) : p k = true :=
  List.all_eq_true.1 h k (List.mem_range.2 hk)

/-- rule 3, at place j -/
def stepAt (S : Int) (xs : List Int) (j : Nat) : Bool := decide (j = 0) || inB (xs.getD j 0 - xs.getD (j - 1) 0) (-S) S
def stepsB (S : Int) (xs : List Int) : Bool := (List.range xs.length).all (stepAt S xs)
/-- how many equal cuts follow one another before place j -/
def runAt (xs : List Int) : Nat → Nat
  | 0 => 0
  | j + 1 => if 0 < j ∧ xs.getD j 0 ≠ xs.getD (j - 1) 0 then 1 else runAt xs j + 1
/-- rule 4, at place j -/
def runOk (M : Int) (xs : List Int) (j : Nat) : Bool := decide ((runAt xs (j + 1) : Int) ≤ M)
def runsB (M : Int) (xs : List Int) : Bool := (List.range xs.length).all (runOk M xs)
/-- how many different cuts are among the first j -/
def kindsAt (xs : List Int) : Nat → Nat
  | 0 => 0
  | j + 1 => kindsAt xs j + if (xs.take j).any (fun v => decide (v = xs.getD j 0)) = true then 0 else 1
def kinds (xs : List Int) : Nat := kindsAt xs xs.length

theorem runAt_le (xs : List Int) (j : Nat) : runAt xs j ≤ j := by
  induction j with
  | zero => simp [runAt]
  | succ j ih => unfold runAt; split <;> omega
theorem kindsAt_le (xs : List Int) (j : Nat) : kindsAt xs j ≤ j := by
  induction j with
  | zero => simp [kindsAt]
  | succ j ih => unfold kindsAt; split <;> omega
theorem kinds_le (xs : List Int) : kinds xs ≤ xs.length := kindsAt_le _ _
theorem run_new {xs : List Int} {j : Nat} {u v : Int} (hv : xs[j]? = some v) (hu : xs[j - 1]? = some u) (hj : 0 < j) (h : v ≠ u) : runAt xs (j + 1) = 1 := by
  unfold runAt; rw [if_pos ⟨hj, by rw [getD_at hv, getD_at hu]; exact h⟩]
theorem run_on {xs : List Int} {j : Nat} {u v : Int} (hv : xs[j]? = some v) (hu : xs[j - 1]? = some u) (h : v = u) : runAt xs (j + 1) = runAt xs j + 1 := by
  show (if _ then _ else _) = _
  rw [if_neg]
  rw [getD_at hv, getD_at hu]; exact fun h' => h'.2 h
theorem run_first {xs : List Int} {j : Nat} (hj : ¬ 0 < j) : runAt xs (j + 1) = runAt xs j + 1 := by
  show (if _ then _ else _) = _
  rw [if_neg (fun h => hj h.1)]
theorem step_first' {S : Int} {xs : List Int} {j : Nat} (hj : ¬ 0 < j) : stepAt S xs j = true := by
  unfold stepAt; rw [decide_eq_true (show j = 0 by omega)]; rfl
theorem step_is {S u v : Int} {xs : List Int} {j : Nat} (hv : xs[j]? = some v) (hu : xs[j - 1]? = some u) (hj : 0 < j) : stepAt S xs j = inB (v - u) (-S) S := by
  unfold stepAt; rw [getD_at hv, getD_at hu, decide_eq_false (show ¬ j = 0 by omega)]; rfl

/-- the number of the first rule that cuts do not keep -/
def faultV (m : Mk) (xs : List Int) : Int :=
  if (xs.length : Int) ≠ m.C then 1 else if allIn 0 (m.D - 1) xs = false then 2 else if stepsB m.S xs = false then 3 else if runsB m.M xs = false then 4 else if (kinds xs : Int) < m.L then 5 else 0
theorem fault1 {m : Mk} {xs : List Int} (h : (xs.length : Int) ≠ m.C) : faultV m xs = 1 := by unfold faultV; rw [if_pos h]
theorem fault2 {m : Mk} {xs : List Int} (h1 : (xs.length : Int) = m.C) (h : allIn 0 (m.D - 1) xs = false) : faultV m xs = 2 := by unfold faultV; rw [if_neg (by simp [h1]), if_pos h]
theorem fault3 {m : Mk} {xs : List Int} (h1 : (xs.length : Int) = m.C) (h2 : allIn 0 (m.D - 1) xs = true) (h : stepsB m.S xs = false) : faultV m xs = 3 := by
  unfold faultV; rw [if_neg (by simp [h1]), if_neg (by simp [h2]), if_pos h]
theorem fault4 {m : Mk} {xs : List Int} (h1 : (xs.length : Int) = m.C) (h2 : allIn 0 (m.D - 1) xs = true) (h3 : stepsB m.S xs = true) (h : runsB m.M xs = false) : faultV m xs = 4 := by
  unfold faultV; rw [if_neg (by simp [h1]), if_neg (by simp [h2]), if_neg (by simp [h3]), if_pos h]
theorem fault5 {m : Mk} {xs : List Int} (h1 : (xs.length : Int) = m.C) (h2 : allIn 0 (m.D - 1) xs = true) (h3 : stepsB m.S xs = true) (h4 : runsB m.M xs = true) (h : (kinds xs : Int) < m.L) : faultV m xs = 5 := by
  unfold faultV; rw [if_neg (by simp [h1]), if_neg (by simp [h2]), if_neg (by simp [h3]), if_neg (by simp [h4]), if_pos h]
theorem fault0 {m : Mk} {xs : List Int} (h1 : (xs.length : Int) = m.C) (h2 : allIn 0 (m.D - 1) xs = true) (h3 : stepsB m.S xs = true) (h4 : runsB m.M xs = true) (h : ¬ (kinds xs : Int) < m.L) : faultV m xs = 0 := by
  unfold faultV; rw [if_neg (by simp [h1]), if_neg (by simp [h2]), if_neg (by simp [h3]), if_neg (by simp [h4]), if_neg h]

end Go.Proofs.Ytpabccgndhmcdaa
