/- NextKey and FirstKey of the program. NextKey and FirstKey of the program: their walks. -/
import Derived.Test.YtpbimekfhdgdoaaFill
import Derived.Lib.SliceRun
namespace Go.Proofs.Ytpbimekfhdgdoaa
open Go.RowKit

/-- whether cuts keep the rules 1 and 2 -/
def cutsB (m : Mk) (xs : List Int) : Bool := allIn 0 (m.D - 1) xs && decide ((xs.length : Int) = m.C)
def nextOk (m : Mk) (xs : List Int) : Bool := m.ok && cutsB m xs
def nextL (m : Mk) (xs : List Int) : List Int := if nextOk m xs then headL (nextAll m xs) else []
def nextE (m : Mk) (xs : List Int) : Int := if m.ok then (if cutsB m xs then (if (nextAll m xs).isEmpty then 4 else 0) else 2) else 1
theorem next_bad {m : Mk} {xs : List Int} (h : m.ok = false) : nextL m xs = [] ∧ nextE m xs = 1 := by simp [nextL, nextE, nextOk, h]
theorem next_no {m : Mk} {xs : List Int} (h : m.ok = true) (h2 : cutsB m xs = false) : nextL m xs = [] ∧ nextE m xs = 2 := by simp [nextL, nextE, nextOk, h, h2]
theorem next_none {m : Mk} {xs : List Int} (h : m.ok = true) (h2 : cutsB m xs = true) (h3 : nextAll m xs = []) : nextL m xs = [] ∧ nextE m xs = 4 := by simp [nextL, nextE, nextOk, h, h2, h3, headL]
theorem next_yes {m : Mk} {xs ys : List Int} (h : m.ok = true) (h2 : cutsB m xs = true) (h3 : (nextAll m xs).head? = some ys) : nextL m xs = ys ∧ nextE m xs = 0 := by
  have h4 : (nextAll m xs).isEmpty = false := by
    cases hn : nextAll m xs with
    | nil => rw [hn] at h3; cases h3
    | cons a b => rfl
  simp [nextL, nextE, nextOk, h, h2, headL, h3, h4]
theorem cuts_no1 {m : Mk} {xs : List Int} (h : (xs.length : Int) ≠ m.C) : cutsB m xs = false := by simp [cutsB, h]
theorem cuts_no2 {m : Mk} {xs : List Int} (h : allIn 0 (m.D - 1) xs = false) : cutsB m xs = false := by simp [cutsB, h]
theorem cuts_yes {m : Mk} {xs : List Int} (h1 : (xs.length : Int) = m.C) (h : allIn 0 (m.D - 1) xs = true) : cutsB m xs = true := by simp [cutsB, h, h1]

/-- what a copy of a list answers -/
def Copied (w : World) (n : Nat) (xs : List Int) (e : Ending) (w' : World) : Prop :=
  ∃ A c, e = .returned (.slice A n c) ∧ Own w' w.heap.size w'.heap.size A n xs ∧ n ≤ c ∧ c ≤ 9223372036854775807 ∧ Below w.heap.size w w'
theorem ints_news {w : World} {B n : Nat} {ad : Addr} {xs : List Int} (h : Ints w B (some ad) n xs) (hn : 0 < n) : ∀ j u, (intsV xs)[j]? = some u → w.cell? (ad.add j) = some u := by
  intro j u hu
  unfold intsV at hu
  rw [List.getElem?_map] at hu
  rcases hv : xs[j]? with _ | v
  · rw [hv] at hu; cases hu
  · rw [hv] at hu
    obtain ⟨ad', e, _, hc⟩ := h.2 hn
    injection e with e
    subst e
    have hu' : Value.int .i64 v = u := by simpa using hu
    rw [← hu']
    exact hc _ _ hv

end Go.Proofs.Ytpbimekfhdgdoaa

namespace Go.Proofs.Ytpbimekfhdgdoaa
open Go.RowKit

theorem below_grown' {B : Nat} {a w w' : World} {row : Option Nat} (h : Below B a w) (hB : B ≤ w.heap.size) (hg : w.grownBy w' row) (hr : ∀ g, row = some g → B ≤ g) : Below B a w' := h.grown hg hB hr

def firstL (m : Mk) : List Int := if m.ok then headL (allKeys m) else []
def firstE (m : Mk) : Int := if m.ok then 0 else 1
theorem first_bad {m : Mk} (h : m.ok = false) : firstL m = [] ∧ firstE m = 1 := by simp [firstL, firstE, h]
theorem first_yes {m : Mk} {ys : List Int} (h : m.ok = true) (h3 : (allKeys m).head? = some ys) : firstL m = ys ∧ firstE m = 0 := by simp [firstL, firstE, h, headL, h3]

end Go.Proofs.Ytpbimekfhdgdoaa
