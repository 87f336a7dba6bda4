/- DifferenceOf and DistanceOf, of the program and of the model. -/
import Derived.Test.YtjoknbknhfnggaaCode
namespace Go.Proofs.Ytjoknbknhfnggaa
open Go.RowKit

def dfV (m : Mk) (xs ys : List Int) : Int := if codeF m [xs, ys] = 0 then diffI xs ys else 0
def dsV (m : Mk) (xs ys : List Int) : Int := if codeF m [xs, ys] = 0 then distI xs ys else 0
theorem df_yes {m : Mk} {xs ys : List Int} (h : codeF m [xs, ys] = 0) : dfV m xs ys = diffI xs ys := by unfold dfV; rw [if_pos h]
theorem df_no {m : Mk} {xs ys : List Int} (h : codeF m [xs, ys] ≠ 0) : dfV m xs ys = 0 := by unfold dfV; rw [if_neg h]
theorem ds_yes {m : Mk} {xs ys : List Int} (h : codeF m [xs, ys] = 0) : dsV m xs ys = distI xs ys := by unfold dsV; rw [if_pos h]
theorem ds_no {m : Mk} {xs ys : List Int} (h : codeF m [xs, ys] ≠ 0) : dsV m xs ys = 0 := by unfold dsV; rw [if_neg h]
theorem two_keys {m : Mk} {xs ys : List Int} (h : codeF m [xs, ys] = 0) : m.ok = true ∧ isKeyB m xs = true ∧ isKeyB m ys = true := by
  obtain ⟨h1, h2⟩ := code_zero.1 h
  simp at h2
  exact ⟨h1, h2.1, h2.2⟩
theorem key_seven {m : Mk} {xs : List Int} (h : isKeyB m xs = true) : allIn 0 7 xs = true := by
  obtain ⟨hm, _, h3, _⟩ := key_facts h
  obtain ⟨m1, m2, m3, m4, _⟩ := Mk.ok_true hm
  unfold allIn at *
  rw [List.all_eq_true] at *
  intro v hv
  have := inB_true.1 (h3 v hv)
  exact inB_true.2 (by omega)
theorem two_len {m : Mk} {xs ys : List Int} (h : codeF m [xs, ys] = 0) : (xs.length : Int) = m.C ∧ (ys.length : Int) = m.C ∧ xs.length = ys.length ∧ allIn 0 7 xs = true ∧ allIn 0 7 ys = true := by
  obtain ⟨_, h1, h2⟩ := two_keys h
  obtain ⟨_, l1, _⟩ := key_facts h1
  obtain ⟨_, l2, _⟩ := key_facts h2
  exact ⟨l1, l2, by omega, key_seven h1, key_seven h2⟩
theorem drew_below {w w1 w2 : World} {q : Nat} (h : Below w.heap.size w w1) (e : w2 = w1.drewN q) : Below w.heap.size w w2 := by subst e; exact below_drewN h q

end Go.Proofs.Ytjoknbknhfnggaa
