/- Plain mathematics of chapter 1: products that are cut at the limit, powers, results with their codes. No program text. -/
import Derived.WalkKit
namespace Go.Proofs.Ytpabccgndhmcdaa

def capM (a b : Int) : Int := if 1000000000000 < a * b then 1000000000001 else a * b
def isNumB (n : Int) : Bool := decide (0 ≤ n) && decide (n ≤ 1000000000000)
def inB (n a b : Int) : Bool := decide (a ≤ n) && decide (n ≤ b)
def resV (n : Int) : Int := if 1000000000000 < n then 0 else n
def resC (n : Int) : Int := if 1000000000000 < n then 3 else 0
def powC (b : Int) : Nat → Int
  | 0 => 1
  | n + 1 => capM (powC b n) b

theorem inB_true {n a b : Int} : inB n a b = true ↔ a ≤ n ∧ n ≤ b := by simp [inB]
theorem inB_false {n a b : Int} : inB n a b = false ↔ n < a ∨ b < n := by
  rw [← Bool.not_eq_true, inB_true]; omega
theorem capM_range {a b : Int} (ha : 0 ≤ a) (hb : 0 ≤ b) : 0 ≤ capM a b ∧ capM a b ≤ 1000000000001 := by
  unfold capM
  have := Int.mul_nonneg ha hb
  split <;> omega
theorem capM_over {a b : Int} (ha : 0 < a) (h : 1000000000000 / a < b) : capM a b = 1000000000001 := by
  unfold capM
  rw [if_pos]
  have := Int.lt_mul_of_ediv_lt ha h
  rw [Int.mul_comm]; exact this
theorem capM_under {a b : Int} (ha : 0 < a) (h : ¬ 1000000000000 / a < b) : capM a b = a * b ∧ a * b ≤ 1000000000000 := by
  have h1 : a * b ≤ 1000000000000 := by
    rw [Int.mul_comm]; exact Int.mul_le_of_le_ediv ha (by omega)
  unfold capM
  rw [if_neg (by omega)]
  exact ⟨rfl, h1⟩
theorem capM_comm (a b : Int) : capM a b = capM b a := by unfold capM; rw [Int.mul_comm]
theorem powC_range {b : Int} (hb : 0 ≤ b) (n : Nat) : 0 ≤ powC b n ∧ powC b n ≤ 1000000000001 := by
  induction n with
  | zero => simp [powC]
  | succ n ih => exact capM_range ih.1 hb

end Go.Proofs.Ytpabccgndhmcdaa
