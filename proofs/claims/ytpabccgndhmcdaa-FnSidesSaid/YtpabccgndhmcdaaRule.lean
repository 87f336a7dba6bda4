/- The rules for cuts: contracts of the program's functions. The rules for cuts: runs of equal cuts, and different cuts. -/
import Derived.Test.YtpabccgndhmcdaaMkMath
import Derived.Deep.RegionHeld3
namespace Go.Proofs.Ytpabccgndhmcdaa
open Go.RowKit

end Go.Proofs.Ytpabccgndhmcdaa

namespace Go.Proofs.Ytpabccgndhmcdaa
open Go.RowKit

/-- whether a depth is among the first k cuts -/
def seenB (xs : List Int) (k : Nat) (v : Int) : Bool := (xs.take k).any (fun x => decide (x = v))
def seenV (xs : List Int) (k : Nat) (i : Nat) : Value := .bool (seenB xs k (i : Int))
theorem seen_same {xs : List Int} {k : Nat} {v : Int} (hv : xs[k]? = some v) (h : seenB xs k v = true) (i : Nat) : seenV xs k i = seenV xs (k + 1) i := by
  obtain ⟨hk, rfl⟩ := List.getElem?_eq_some_iff.1 hv
  unfold seenV seenB at *
  rw [List.take_succ_eq_append_getElem hk, List.any_append]
  simp only [List.any_cons, List.any_nil, Bool.or_false]
  by_cases e : xs[k] = (i : Int)
  · rw [← e, h]; rfl
  · simp [e]
theorem seen_set {xs : List Int} {k : Nat} {v : Int} (hv : xs[k]? = some v) (h0 : 0 ≤ v) (i : Nat) : (if i = v.toNat then Value.bool true else seenV xs k i) = seenV xs (k + 1) i := by
  obtain ⟨hk, rfl⟩ := List.getElem?_eq_some_iff.1 hv
  unfold seenV seenB
  rw [List.take_succ_eq_append_getElem hk, List.any_append]
  simp only [List.any_cons, List.any_nil, Bool.or_false]
  by_cases e : i = (xs[k]).toNat
  · rw [if_pos e, decide_eq_true (by omega), Bool.or_true]
  · rw [if_neg e, decide_eq_false (by omega), Bool.or_false]
theorem kinds_old {xs : List Int} {k : Nat} {v : Int} (hv : xs[k]? = some v) (h : seenB xs k v = true) : kindsAt xs (k + 1) = kindsAt xs k := by
  show kindsAt xs k + (if seenB xs k (xs.getD k 0) = true then 0 else 1) = _
  rw [getD_at hv, if_pos h, Nat.add_zero]
theorem kinds_new {xs : List Int} {k : Nat} {v : Int} (hv : xs[k]? = some v) (h : seenB xs k v = false) : kindsAt xs (k + 1) = kindsAt xs k + 1 := by
  show kindsAt xs k + (if seenB xs k (xs.getD k 0) = true then 0 else 1) = _
  rw [getD_at hv, if_neg (by simp [h])]

end Go.Proofs.Ytpabccgndhmcdaa
