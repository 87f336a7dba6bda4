/- Makers: their five numbers and what is valid; contracts of IsMaker, of the program and of the model. Makers: the law of IsMaker. Cuts of a key: the five rules, as plain functions of lists. No program text. The rules for cuts: contracts of the program's functions. The rules for cuts: runs of equal cuts, and different cuts. -/
import Derived.Test.YtidjnnooeepklaaOwn
import Derived.Deep.RegionHeld3
namespace Go.Proofs.Ytidjnnooeepklaa
open Go.RowKit

/-- the numbers of a maker: chambers, depths, step, same, least -/
structure Mk where
  C : Int
  D : Int
  S : Int
  M : Int
  L : Int

def Mk.ok (m : Mk) : Bool := inB m.C 2 6 && (inB m.D 2 8 && (inB m.S 1 (m.D - 1) && (inB m.M 1 m.C && inB m.L 1 (min m.C m.D))))
theorem Mk.ok_true {m : Mk} (h : m.ok = true) : 2 ≤ m.C ∧ m.C ≤ 6 ∧ 2 ≤ m.D ∧ m.D ≤ 8 ∧ 1 ≤ m.S ∧ m.S ≤ m.D - 1 ∧ 1 ≤ m.M ∧ m.M ≤ m.C ∧ 1 ≤ m.L ∧ m.L ≤ m.C ∧ m.L ≤ m.D := by
  unfold Mk.ok at h
  simp only [Bool.and_eq_true, inB_true] at h
  omega
theorem ok_no1 {m : Mk} (h : inB m.C 2 6 = false) : m.ok = false := by simp [Mk.ok, h]
theorem ok_no2 {m : Mk} (h : inB m.D 2 8 = false) : m.ok = false := by simp [Mk.ok, h]
theorem ok_no3 {m : Mk} (h : inB m.S 1 (m.D - 1) = false) : m.ok = false := by simp [Mk.ok, h]
theorem ok_no4 {m : Mk} (h : inB m.M 1 m.C = false) : m.ok = false := by simp [Mk.ok, h]
theorem ok_same {m : Mk} (h1 : inB m.C 2 6 = true) (h2 : inB m.D 2 8 = true) (h3 : inB m.S 1 (m.D - 1) = true) (h4 : inB m.M 1 m.C = true) : m.ok = inB m.L 1 (min m.C m.D) := by simp [Mk.ok, h1, h2, h3, h4]

theorem isWithin_at (n a b : Int) (w : World) (q : Bool) (h : inB n a b = q) :
    Calls Try.prog 87 #[.int .i64 n, .int .i64 a, .int .i64 b] w fun e w' => e = .returned (.bool q) ∧ w = w' := by
  subst h; exact isWithin_any n a b w

theorem l01In_at (n a b : Int) (w : World) (q : Bool) (h : inB n a b = q) :
    Calls Try.prog 95 #[.int .i64 n, .int .i64 a, .int .i64 b] w fun e w' => e = .returned (.bool q) ∧ w = w' := by
  subst h; exact l01In_any n a b w

end Go.Proofs.Ytidjnnooeepklaa

namespace Go.Proofs.Ytidjnnooeepklaa
open Go.RowKit

/-- a block that holds a maker -/
def Boxed (w : World) (b : Nat) (t : TypeId) (m : Mk) : Prop := w.heap[b]? = some (.cells #[.int .i64 m.C, .int .i64 m.D, .int .i64 m.S, .int .i64 m.M, .int .i64 m.L] t (0, 0))
theorem Boxed.lt {w : World} {b : Nat} {t : TypeId} {m : Mk} (h : Boxed w b t m) : b < w.heap.size := by
  rcases Nat.lt_or_ge b w.heap.size with hlt | hge
  · exact hlt
  · unfold Boxed at h; rw [Array.getElem?_eq_none hge] at h; cases h
theorem Boxed.new (w : World) (t : TypeId) (m : Mk) : Boxed (w.alloc (.cells #[.int .i64 m.C, .int .i64 m.D, .int .i64 m.S, .int .i64 m.M, .int .i64 m.L] t)) w.heap.size t m := heap_alloc_new w _
theorem Boxed.below {w w' : World} {b B : Nat} {t : TypeId} {m : Mk} (h : Boxed w b t m) (hb : Below B w w') (hB : b < B) : Boxed w' b t m := (hb.block b hB).trans h
theorem Boxed.on {w w' : World} {b : Nat} {t : TypeId} {m : Mk} (h : Boxed w b t m) (hb : Below w.heap.size w w') : Boxed w' b t m := h.below hb h.lt
theorem Boxed.drewN {w : World} {b : Nat} {t : TypeId} {m : Mk} (h : Boxed w b t m) (n : Nat) : Boxed (w.drewN n) b t m := h
theorem Boxed.alloc {w : World} {b : Nat} {t : TypeId} {m : Mk} (h : Boxed w b t m) (o : Obj) : Boxed (w.alloc o) b t m := (Below.heap_alloc w o b h.lt).trans h
theorem Boxed.grown {w w' : World} {b : Nat} {t : TypeId} {m : Mk} {row : Option Nat} (h : Boxed w b t m) (hg : w.grownBy w' row) (hr : some b ≠ row) : Boxed w' b t m := (hg.block b h.lt hr).trans h
theorem Boxed.cells {w : World} {b : Nat} {t : TypeId} {m : Mk} (h : Boxed w b t m) : w.cell? ⟨b, 0, none⟩ = some (.int .i64 m.C) ∧ w.cell? ⟨b, 1, none⟩ = some (.int .i64 m.D) ∧ w.cell? ⟨b, 2, none⟩ = some (.int .i64 m.S) ∧ w.cell? ⟨b, 3, none⟩ = some (.int .i64 m.M) ∧ w.cell? ⟨b, 4, none⟩ = some (.int .i64 m.L) := by
  unfold Boxed at h
  refine ⟨?_, ?_, ?_, ?_, ?_⟩ <;> simp [World.cell?, h]

end Go.Proofs.Ytidjnnooeepklaa

namespace Go.Proofs.Ytidjnnooeepklaa

theorem getD_at {xs : List Int} {k : Nat} {v : Int} (hv : xs[k]? = some v) : xs.getD k 0 = v := by
  rw [List.getD_eq_getElem?_getD, hv]; rfl
theorem not_all_range {p : Nat → Bool} {n k : Nat} (hk : k < n) (h : p k = false) : (List.range n).all p = false := by
  rw [List.all_eq_false]
  exact ⟨k, by simp; omega, by simp [h]⟩
theorem all_range {p : Nat → Bool} {n k : Nat} (hk : ¬ k < n) (h : ∀ j, j < k → p j = true) : (List.range n).all p = true := by
  rw [List.all_eq_true]
  intro j hj
  exact h j (by have := List.mem_range.1 hj; omega)
theorem all_next {p : Nat → Bool} {k : Nat} (h : ∀ j, j < k → p j = true) (hk : p k = true) : ∀ j, j < k + 1 → p j = true := by
  intro j hj
  by_cases e : j = k
  · subst e; exact hk
  · exact h j (by omega)
theorem all_range_at {p : Nat → Bool} {n k : Nat} (h : (List.range n).all p = true) (hk : k < n) : p k = true :=
  List.all_eq_true.1 h k (List.mem_range.2 hk)

/-- rule 3, at place j -/
def stepAt (S : Int) (xs : List Int) (j : Nat) : Bool := decide (j = 0) || inB (xs.getD j 0 - xs.getD (j - 1) 0) (-S) S
def stepsB (S : Int) (xs : List Int) : Bool := (List.range xs.length).all (stepAt S xs)
/-- how many equal cuts follow one another before place j -/
def runAt (xs : List Int) : Nat → Nat
  | 0 => 0
  | j + 1 => if 0 < j ∧ xs.getD j 0 ≠ xs.getD (j - 1) 0 then 1 else runAt xs j + 1
/-- rule 4, at place j -/
def runOk (M : Int) (xs : List Int) (j : Nat) : Bool := decide ((runAt xs (j + 1) : Int) ≤ M)
def runsB (M : Int) (xs : List Int) : Bool := (List.range xs.length).all (runOk M xs)
/-- how many different cuts are among the first j -/
def kindsAt (xs : List Int) : Nat → Nat
  | 0 => 0
  | j + 1 => kindsAt xs j + if (xs.take j).any (fun v => decide (v = xs.getD j 0)) = true then 0 else 1
def kinds (xs : List Int) : Nat := kindsAt xs xs.length

theorem runAt_le (xs : List Int) (j : Nat) : runAt xs j ≤ j := by
  induction j with
  | zero => simp [runAt]
  | succ j ih => unfold runAt; split <;> omega
theorem kindsAt_le (xs : List Int) (j : Nat) : kindsAt xs j ≤ j := by
  induction j with
  | zero => simp [kindsAt]
  | succ j ih => unfold kindsAt; split <;> omega
theorem kinds_le (xs : List Int) : kinds xs ≤ xs.length := kindsAt_le _ _
theorem run_new {xs : List Int} {j : Nat} {u v : Int} (hv : xs[j]? = some v) (hu : xs[j - 1]? = some u) (hj : 0 < j) (h : v ≠ u) : runAt xs (j + 1) = 1 := by
  unfold runAt; rw [if_pos ⟨hj, by rw [getD_at hv, getD_at hu]; exact h⟩]
theorem run_on {xs : List Int} {j : Nat} {u v : Int} (hv : xs[j]? = some v) (hu : xs[j - 1]? = some u) (h : v = u) : runAt xs (j + 1) = runAt xs j + 1 := by
  show (if _ then _ else _) = _
  rw [if_neg]
  rw [getD_at hv, getD_at hu]; exact fun h' => h'.2 h
theorem run_first {xs : List Int} {j : Nat} (hj : ¬ 0 < j) : runAt xs (j + 1) = runAt xs j + 1 := by
  show (if _ then _ else _) = _
  rw [if_neg (fun h => hj h.1)]
theorem step_first' {S : Int} {xs : List Int} {j : Nat} (hj : ¬ 0 < j) : stepAt S xs j = true := by
  unfold stepAt; rw [decide_eq_true (show j = 0 by omega)]; rfl
theorem step_is {S u v : Int} {xs : List Int} {j : Nat} (hv : xs[j]? = some v) (hu : xs[j - 1]? = some u) (hj : 0 < j) : stepAt S xs j = inB (v - u) (-S) S := by
  unfold stepAt; rw [getD_at hv, getD_at hu, decide_eq_false (show ¬ j = 0 by omega)]; rfl

/-- the number of the first rule that cuts do not keep -/
def faultV (m : Mk) (xs : List Int) : Int :=
  if (xs.length : Int) ≠ m.C then 1 else if allIn 0 (m.D - 1) xs = false then 2 else if stepsB m.S xs = false then 3 else if runsB m.M xs = false then 4 else if (kinds xs : Int) < m.L then 5 else 0
theorem fault1 {m : Mk} {xs : List Int} (h : (xs.length : Int) ≠ m.C) : faultV m xs = 1 := by unfold faultV; rw [if_pos h]
theorem fault2 {m : Mk} {xs : List Int} (h1 : (xs.length : Int) = m.C) (h : allIn 0 (m.D - 1) xs = false) : faultV m xs = 2 := by unfold faultV; rw [if_neg (by simp [h1]), if_pos h]
theorem fault3 {m : Mk} {xs : List Int} (h1 : (xs.length : Int) = m.C) (h2 : allIn 0 (m.D - 1) xs = true) (h : stepsB m.S xs = false) : faultV m xs = 3 := by
  unfold faultV; rw [if_neg (by simp [h1]), if_neg (by simp [h2]), if_pos h]
theorem fault4 {m : Mk} {xs : List Int} (h1 : (xs.length : Int) = m.C) (h2 : allIn 0 (m.D - 1) xs = true) (h3 : stepsB m.S xs = true) (h : runsB m.M xs = false) : faultV m xs = 4 := by
  unfold faultV; rw [if_neg (by simp [h1]), if_neg (by simp [h2]), if_neg (by simp [h3]), if_pos h]
theorem fault5 {m : Mk} {xs : List Int} (h1 : (xs.length : Int) = m.C) (h2 : allIn 0 (m.D - 1) xs = true) (h3 : stepsB m.S xs = true) (h4 : runsB m.M xs = true) (h : (kinds xs : Int) < m.L) : faultV m xs = 5 := by
  unfold faultV; rw [if_neg (by simp [h1]), if_neg (by simp [h2]), if_neg (by simp [h3]), if_neg (by simp [h4]), if_pos h]
theorem fault0 {m : Mk} {xs : List Int} (h1 : (xs.length : Int) = m.C) (h2 : allIn 0 (m.D - 1) xs = true) (h3 : stepsB m.S xs = true) (h4 : runsB m.M xs = true) (h : ¬ (kinds xs : Int) < m.L) : faultV m xs = 0 := by
  unfold faultV; rw [if_neg (by simp [h1]), if_neg (by simp [h2]), if_neg (by simp [h3]), if_neg (by simp [h4]), if_neg h]

end Go.Proofs.Ytidjnnooeepklaa

namespace Go.Proofs.Ytidjnnooeepklaa
open Go.RowKit

end Go.Proofs.Ytidjnnooeepklaa

namespace Go.Proofs.Ytidjnnooeepklaa
open Go.RowKit

/-- whether a depth is among the first k cuts -/
def seenB (xs : List Int) (k : Nat) (v : Int) : Bool := (xs.take k).any (fun x => decide (x = v))
def seenV (xs : List Int) (k : Nat) (i : Nat) : Value := .bool (seenB xs k (i : Int))
theorem seen_same {xs : List Int} {k : Nat} {v : Int} (hv : xs[k]? = some v) (h : seenB xs k v = true) (i : Nat) : seenV xs k i = seenV xs (k + 1) i := by
  obtain ⟨hk, rfl⟩ := List.getElem?_eq_some_iff.1 hv
  unfold seenV seenB at *
  rw [List.take_succ_eq_append_getElem hk, List.any_append]
  simp only [List.any_cons, List.any_nil, Bool.or_false]
  by_cases e : xs[k] = (i : Int)
  · rw [← e, h]; rfl
  · simp [e]
theorem seen_set {xs : List Int} {k : Nat} {v : Int} (hv : xs[k]? = some v) (h0 : 0 ≤ v) (i : Nat) : (if i = v.toNat then Value.bool true else seenV xs k i) = seenV xs (k + 1) i := by
  obtain ⟨hk, rfl⟩ := List.getElem?_eq_some_iff.1 hv
  unfold seenV seenB
  rw [List.take_succ_eq_append_getElem hk, List.any_append]
  simp only [List.any_cons, List.any_nil, Bool.or_false]
  by_cases e : i = (xs[k]).toNat
  · rw [if_pos e, decide_eq_true (by omega), Bool.or_true]
  · rw [if_neg e, decide_eq_false (by omega), Bool.or_false]
theorem kinds_old {xs : List Int} {k : Nat} {v : Int} (hv : xs[k]? = some v) (h : seenB xs k v = true) : kindsAt xs (k + 1) = kindsAt xs k := by
  show kindsAt xs k + (if seenB xs k (xs.getD k 0) = true then 0 else 1) = _
  rw [getD_at hv, if_pos h, Nat.add_zero]
theorem kinds_new {xs : List Int} {k : Nat} {v : Int} (hv : xs[k]? = some v) (h : seenB xs k v = false) : kindsAt xs (k + 1) = kindsAt xs k + 1 := by
  show kindsAt xs k + (if seenB xs k (xs.getD k 0) = true then 0 else 1) = _
  rw [getD_at hv, if_neg (by simp [h])]

end Go.Proofs.Ytidjnnooeepklaa
