/- Contracts of the functions of chapter 1 that look at lists: ranges, sums, products, rising lists; of the program and of the model. -/
import Derived.Test.YtbadahnhlehidaaInts
namespace Go.Proofs.Ytbadahnhlehidaa
open Go.RowKit

def allIn (lo hi : Int) (xs : List Int) : Bool := xs.all (fun v => inB v lo hi)
def withB (lo hi : Int) (xs : List Int) : Bool := decide (xs.length ≤ 100) && allIn lo hi xs
theorem allIn_no {lo hi v : Int} {xs : List Int} {k : Nat} (hv : xs[k]? = some v) (h : inB v lo hi = false) : allIn lo hi xs = false := not_all (p := fun v => inB v lo hi) hv h
theorem allIn_step {lo hi v : Int} {xs : List Int} {k : Nat} (hv : xs[k]? = some v) (hk : allIn lo hi (xs.take k) = true) (h : inB v lo hi = true) : allIn lo hi (xs.take (k + 1)) = true := by
  unfold allIn at *
  rw [take_all (p := fun v => inB v lo hi) hv, hk, h]; rfl
theorem withB_long {lo hi : Int} {xs : List Int} {n : Nat} (hl : xs.length = n) (h : 100 < n) : withB lo hi xs = false := by
  unfold withB
  rw [hl, decide_eq_false (by omega)]; rfl
theorem withB_short {lo hi : Int} {xs : List Int} {n : Nat} (hl : xs.length = n) (h : n ≤ 100) : withB lo hi xs = allIn lo hi xs := by
  unfold withB
  rw [hl, decide_eq_true h]; rfl
theorem withB_no {lo hi : Int} {xs : List Int} (h : allIn lo hi xs = false) : withB lo hi xs = false := by unfold withB; rw [h, Bool.and_false]

theorem allIn_at {lo hi v : Int} {xs : List Int} {k : Nat} (h : allIn lo hi xs = true) (hv : xs[k]? = some v) : lo ≤ v ∧ v ≤ hi := by
  have := List.all_eq_true.1 h v (List.mem_of_getElem? hv)
  exact inB_true.1 this
theorem withB_true {lo hi : Int} {xs : List Int} (h : withB lo hi xs = true) : xs.length ≤ 100 ∧ allIn lo hi xs = true := by
  unfold withB at h
  simpa using h

end Go.Proofs.Ytbadahnhlehidaa
