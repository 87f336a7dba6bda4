/- NextKey and FirstKey of the program. NextKey and FirstKey of the program: their walks. -/
import Derived.Test.YtpabccgndhmcdaaFill
import Derived.Lib.SliceRun
namespace Go.Proofs.Ytpabccgndhmcdaa
open Go.RowKit

/-- whether cuts keep the rules 1 and 2 -/
def cutsB (m : Mk) (xs : List Int) : Bool := allIn 0 (m.D - 1) xs && decide ((xs.length : Int) = m.C)
def nextOk (m : Mk) (xs : List Int) : Bool := m.ok && cutsB m xs
def nextL (m : Mk) (xs : List Int) : List Int := if nextOk m xs then headL (nextAll m xs) else []
def nextE (m : Mk) (xs : List Int) : Int := if m.ok then (if cutsB m xs then (if (nextAll m xs).isEmpty then 4 else 0) else 2) else 1
theorem next_bad {m : Mk} {xs : List Int} (h : m.ok = false) : nextL m xs = [] ∧ nextE m xs = 1 := by simp [nextL, nextE, nextOk, h]
theorem next_no {m : Mk} {xs : List Int} (h : m.ok = true) (h2 : cutsB m xs = false) : nextL m xs = [] ∧ nextE m xs = 2 := by simp [nextL, nextE, nextOk, h, h2]
theorem next_none {m : Mk} {xs : List Int} (h : m.ok = true) (h2 : cutsB m xs = true) (h3 : nextAll m xs = []) : nextL m xs = [] ∧ nextE m xs = 4 := by simp [nextL, nextE, nextOk, h, h2, h3, headL]
theorem next_yes {m : Mk} {xs ys : List Int} (h : m.ok = true) (h2 : cutsB m xs = true) (h3 : (nextAll m xs).head? = some ys) : nextL m xs = ys ∧ nextE m xs = 0 := by
  have h4 : (nextAll m xs).isEmpty = false := by
    cases hn : nextAll m xs with
    | nil => rw [hn] at h3; cases h3
    | cons a b => rfl
  simp [nextL, nextE, nextOk, h, h2, headL, h3, h4]
theorem cuts_no1 {m : Mk} {xs : List Int} (h : (xs.length : Int) ≠ m.C) : cutsB m xs = false := by simp [cutsB, h]
theorem cuts_no2 {m : Mk} {xs : List Int} (h : allIn 0 (m.D - 1) xs = false) : cutsB m xs = false := by simp [cutsB, h]
theorem cuts_yes {m : Mk} {xs : List Int} (h1 : (xs.length : Int) = m.C) (h : allIn 0 (m.D - 1) xs = true) : cutsB m xs = true := by simp [cutsB, h, h1]

/-- what a copy of a list answers -/
def Copied (w : World) (n : Nat) (xs : List Int) (e : Ending) (w' : World) : Prop :=
  ∃ A c, e = .returned (.slice A n c) ∧ Own w' w.heap.size w'.heap.size A n xs ∧ n ≤ c ∧ c ≤ 9223372036854775807 ∧ Below w.heap.size w w'
theorem ints_news {w : World} {B n : Nat} {ad : Addr} {xs : List Int} (h : Ints w B (some ad) n xs) (hn : 0 < n) : ∀ j u, (intsV xs)[j]? = some u → w.cell? (ad.add j) = some u := by
  intro j u hu
  unfold intsV at hu
  rw [List.getElem?_map] at hu
  rcases hv : xs[j]? with _ | v
  · rw [hv] at hu; cases hu
  · rw [hv] at hu
    obtain ⟨ad', e, _, hc⟩ := h.2 hn
    injection e with e
    subst e
    have hu' : Value.int .i64 v = u := by simpa using hu
    rw [← hu']
    exact hc _ _ hv

set_option maxRecDepth 100000 in
set_option maxHeartbeats 1000000 in
theorem clone_any (ad : Addr) (n c : Nat) (xs : List Int) (w : World) (h : Ints w w.heap.size (some ad) n xs) (hn : n ≤ 1048576) (hp : 0 < n) :
    Calls Try.prog 72 #[.slice (some ad) n c] w (Copied w n xs) := by
  obtain ⟨i0, hi, hz0, hz1, hz2⟩ := info_parts Try.info2'
  have HI := Lib.hid (And.intro hi (And.intro hz0 (And.intro hz1 hz2)))
  clear hi hz0 hz1 hz2
  have HL := Lib.hid h.len
  have hb0 := (Below.refl w.heap.size w).alloc (Nat.le_refl _) (.cells #[] 2)
  have HN := Lib.hid (ints_news (h.below hb0) hp)
  have HB := Lib.hid hb0
  clear hb0
  have HO := Lib.hid (rowNil (w := w) (t := 2) (s := 1) (Nat.le_refl w.heap.size))
  have hcmp : ∀ W : World, (binOp .eql 24 (.slice (some ad) n c) (.slice none 0 0)).run Try.prog W = .ok (.bool false) W := fun W => Lib.run_eql_slice_nil W 24 2 (some ad) n c 0 0 Try.underlying24
  go_enter Try.func72, Try.ntmps72
  go_wp2_with (at_builtin; refine wpList_append_lies _ rfl _ _ 24 rfl w.heap.size 2 i0 _ 1 8 Try.underlying24 HI.out.1 HI.out.2.1 HI.out.2.2.1 HI.out.2.2.2 rfl (by omega) _ 0 _ rfl HO.out ad n c (intsV xs) rfl (by rw [intsV_len, HL.out]; omega) HN.out (intsV_one _) hp (by unfold maxLen; omega) (by omega) (by simp) (w.heap.size + 1) (by simp) ?_; intro gg cap w5 hown1 hgrow hat hlt3)
  rw [show 0 + n = n by omega, List.nil_append] at hown1
  obtain ⟨ho, hc1, hc2⟩ := rowIntsAt hown1 HL.out
  have B5 := Lib.hid (HB.out.grown hgrow (by simp) (fun q e => by have := rowBase HO.out q e; omega))
  have O5 := Lib.hid ho
  clear ho hown1 hgrow hat
  go_wp2
  go_ret
  exact ⟨some ⟨gg, 0, none⟩, cap, by simp, O5.out, hc1, hc2, B5.out⟩

end Go.Proofs.Ytpabccgndhmcdaa

namespace Go.Proofs.Ytpabccgndhmcdaa
open Go.RowKit

theorem below_grown' {B : Nat} {a w w' : World} {row : Option Nat} (h : Below B a w) (hB : B ≤ w.heap.size) (hg : w.grownBy w' row) (hr : ∀ g, row = some g → B ≤ g) : Below B a w' := h.grown hg hB hr

def firstL (m : Mk) : List Int := if m.ok then headL (allKeys m) else []
def firstE (m : Mk) : Int := if m.ok then 0 else 1
theorem first_bad {m : Mk} (h : m.ok = false) : firstL m = [] ∧ firstE m = 1 := by simp [firstL, firstE, h]
theorem first_yes {m : Mk} {ys : List Int} (h : m.ok = true) (h3 : (allKeys m).head? = some ys) : firstL m = ys ∧ firstE m = 0 := by simp [firstL, firstE, h, headL, h3]

end Go.Proofs.Ytpabccgndhmcdaa
