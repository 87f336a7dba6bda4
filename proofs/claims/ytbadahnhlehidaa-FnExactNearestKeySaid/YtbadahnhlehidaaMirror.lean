/- MirrorKey, of the program and of the model. -/
import Derived.Test.YtbadahnhlehidaaPair
import Derived.Test.YtbadahnhlehidaaSNext
namespace Go.Proofs.Ytbadahnhlehidaa
open Go.RowKit

def mirL (m : Mk) (xs : List Int) : List Int := xs.map (fun v => m.D - 1 - v)
def mkL (m : Mk) (xs : List Int) : List Int := if ktE m xs = 0 then mirL m xs else []
theorem mk_yes {m : Mk} {xs : List Int} (h : ktE m xs = 0) : mkL m xs = mirL m xs := by unfold mkL; rw [if_pos h]
theorem mk_no {m : Mk} {xs : List Int} (h : ktE m xs ≠ 0) : mkL m xs = [] := by unfold mkL; rw [if_neg h]
theorem kt_key {m : Mk} {xs : List Int} (h : ktE m xs = 0) : m.ok = true ∧ isKeyB m xs = true := by
  rw [← code_one] at h
  obtain ⟨h1, h2⟩ := code_zero.1 h
  simp at h2
  exact ⟨h1, h2⟩
/-- the mirrored list after k rounds, in a row of zeros -/
def mirAt (m : Mk) (xs : List Int) (k : Nat) (j : Nat) : Value := .int .i64 (if j < k then m.D - 1 - xs.getD j 0 else 0)
theorem mirAt_set {m : Mk} {xs : List Int} {k : Nat} {v : Int} (hv : xs[k]? = some v) (j : Nat) : (if j = k then Value.int .i64 (m.D - 1 - v) else mirAt m xs k j) = mirAt m xs (k + 1) j := by
  unfold mirAt
  by_cases h : j = k
  · subst h
    rw [if_pos rfl, if_pos (by omega), List.getD_eq_getElem?_getD, hv]; rfl
  · rw [if_neg h]
    by_cases h2 : j < k
    · rw [if_pos h2, if_pos (by omega)]
    · rw [if_neg h2, if_neg (by omega)]
theorem mirL_len (m : Mk) (xs : List Int) : (mirL m xs).length = xs.length := by simp [mirL]
theorem mirL_at {m : Mk} {xs : List Int} {k : Nat} {v : Int} (hv : xs[k]? = some v) : mirL m (xs.take k) ++ [m.D - 1 - v] = mirL m (xs.take (k + 1)) := by
  obtain ⟨hk, rfl⟩ := List.getElem?_eq_some_iff.1 hv
  unfold mirL
  rw [List.take_succ_eq_append_getElem hk, List.map_append]; rfl

end Go.Proofs.Ytbadahnhlehidaa
