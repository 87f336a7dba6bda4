/- Makers: their five numbers and what is valid; contracts of IsMaker, of the program and of the model. Makers: the law of IsMaker. Cuts of a key: the five rules, as plain functions of lists. No program text. The rules for cuts: contracts of the program's functions. The rules for cuts: runs of equal cuts, and different cuts. -/
import Derived.Test.YtgbicepneonkfaaOwn
import Derived.Deep.RegionHeld3
namespace Go.Proofs.Ytgbicepneonkfaa
open Go.RowKit

/-- the numbers of a maker: chambers, depths, step, same, least -/
structure Mk where
  C : Int
  D : Int
  S : Int
  M : Int
  L : Int

def Mk.ok (m : Mk) : Bool := inB m.C 2 6 && (inB m.D 2 8 && (inB m.S 1 (m.D - 1) && (inB m.M 1 m.C && inB m.L 1 (min m.C m.D))))
theorem Mk.ok_true {m : Mk} (h : m.ok = true) : 2 ≤ m.C ∧ m.C ≤ 6 ∧ 2 ≤ m.D ∧ m.D ≤ 8 ∧ 1 ≤ m.S ∧ m.S ≤ m.D - 1 ∧ 1 ≤ m.M ∧ m.M ≤ m.C ∧ 1 ≤ m.L ∧ m.L ≤ m.C ∧ m.L ≤ m.D := by
  unfold Mk.ok at h
  simp only [Bool.and_eq_true, inB_true] at h
  omega
theorem ok_no1 {m : Mk} (h : inB m.C 2 6 = false) : m.ok = false := by simp [Mk.ok, h]
theorem ok_no2 {m : Mk} (h : inB m.D 2 8 = false) : m.ok = false := by simp [Mk.ok, h]
theorem ok_no3 {m : Mk} (h : inB m.S 1 (m.D - 1) = false) : m.ok = false := by simp [Mk.ok, h]
theorem ok_no4 {m : Mk} (h : inB m.M 1 m.C = false) : m.ok = false := by simp [Mk.ok, h]
theorem ok_same {m : Mk} (h1 : inB m.C 2 6 = true) (h2 : inB m.D 2 8 = true) (h3 : inB m.S 1 (m.D - 1) = true) (h4 : inB m.M 1 m.C = true) : m.ok = inB m.L 1 (min m.C m.D) := by simp [Mk.ok, h1, h2, h3, h4]

theorem minimumOf_any (a b : Int) (w : World) :
    Calls Try.prog 124 #[.int .i64 a, .int .i64 b] w fun e w' => e = .returned (.int .i64 (min a b)) ∧ w = w' := by
  by_cases h : b < a
  · go_enter Try.func124, Try.ntmps124
    go_wp2
    go_ret
    exact ⟨ret_int (by omega), rfl⟩
  · go_enter Try.func124, Try.ntmps124
    go_wp2
    go_ret
    exact ⟨ret_int (by omega), rfl⟩

theorem isWithin_at (n a b : Int) (w : World) (q : Bool) (h : inB n a b = q) :
    Calls Try.prog 71 #[.int .i64 n, .int .i64 a, .int .i64 b] w fun e w' => e = .returned (.bool q) ∧ w = w' := by
  subst h; exact isWithin_any n a b w

set_option maxHeartbeats 4000000 in
theorem isMaker_any (m : Mk) (w : World) :
    Calls Try.prog 78 #[.agg #[.int .i64 m.C, .int .i64 m.D, .int .i64 m.S, .int .i64 m.M, .int .i64 m.L]] w fun e w' => e = .returned (.bool m.ok) ∧ Below w.heap.size w w' := by
  rcases h1 : inB m.C 2 6 with _ | _
  · rw [ok_no1 h1]
    go_enter Try.func78, Try.ntmps78
    go_wp2
    go_quiet ((go_at_call 71; first | with_reducible exact quiet_left (isWithin_at _ _ _ _ _ h1)))
    go_wp2
    go_ret
    exact ⟨rfl, below_drewN ((Below.refl _ _).alloc (Nat.le_refl _) _) _⟩
  rcases h2 : inB m.D 2 8 with _ | _
  · rw [ok_no2 h2]
    go_enter Try.func78, Try.ntmps78
    go_wp2
    go_quiet ((go_at_call 71; first | with_reducible exact quiet_left (isWithin_at _ _ _ _ _ h1) | with_reducible exact quiet_left (isWithin_at _ _ _ _ _ h2)))
    go_wp2
    go_ret
    exact ⟨rfl, below_drewN ((Below.refl _ _).alloc (Nat.le_refl _) _) _⟩
  rcases h3 : inB m.S 1 (m.D - 1) with _ | _
  · rw [ok_no3 h3]
    obtain ⟨d0, d1⟩ := inB_true.1 h2
    go_enter Try.func78, Try.ntmps78
    go_wp2
    go_quiet ((go_at_call 71; first | with_reducible exact quiet_left (isWithin_at _ _ _ _ _ h1) | with_reducible exact quiet_left (isWithin_at _ _ _ _ _ h2) | with_reducible exact quiet_left (isWithin_at _ _ _ _ _ h3)))
    go_wp2
    go_ret
    exact ⟨rfl, below_drewN ((Below.refl _ _).alloc (Nat.le_refl _) _) _⟩
  rcases h4 : inB m.M 1 m.C with _ | _
  · rw [ok_no4 h4]
    obtain ⟨d0, d1⟩ := inB_true.1 h2
    go_enter Try.func78, Try.ntmps78
    go_wp2
    go_quiet ((go_at_call 71; first | with_reducible exact quiet_left (isWithin_at _ _ _ _ _ h1) | with_reducible exact quiet_left (isWithin_at _ _ _ _ _ h2) | with_reducible exact quiet_left (isWithin_at _ _ _ _ _ h3) | with_reducible exact quiet_left (isWithin_at _ _ _ _ _ h4)))
    go_wp2
    go_ret
    exact ⟨rfl, below_drewN ((Below.refl _ _).alloc (Nat.le_refl _) _) _⟩
  rw [ok_same h1 h2 h3 h4]
  obtain ⟨q, h5⟩ : ∃ q, inB m.L 1 (min m.C m.D) = q := ⟨_, rfl⟩
  rw [h5]
  obtain ⟨d0, d1⟩ := inB_true.1 h2
  go_enter Try.func78, Try.ntmps78
  go_wp2
  go_quiet ((first | (go_at_call 124; exact quiet_left (minimumOf_any _ _ _)) | (go_at_call 71; first | with_reducible exact quiet_left (isWithin_at _ _ _ _ _ h1) | with_reducible exact quiet_left (isWithin_at _ _ _ _ _ h2) | with_reducible exact quiet_left (isWithin_at _ _ _ _ _ h3) | with_reducible exact quiet_left (isWithin_at _ _ _ _ _ h4) | with_reducible exact quiet_left (isWithin_at _ _ _ _ _ h5) | with_reducible exact quiet_left (minimumOf_any _ _ _))))
  go_wp2
  go_ret
  exact ⟨rfl, below_drewN ((Below.refl _ _).alloc (Nat.le_refl _) _) _⟩

theorem l01In_at (n a b : Int) (w : World) (q : Bool) (h : inB n a b = q) :
    Calls Try.prog 104 #[.int .i64 n, .int .i64 a, .int .i64 b] w fun e w' => e = .returned (.bool q) ∧ w = w' := by
  subst h; exact l01In_any n a b w

set_option maxHeartbeats 4000000 in
theorem specIsMaker_any (m : Mk) (w : World) :
    Calls Try.prog 68 #[.agg #[.int .i64 m.C, .int .i64 m.D, .int .i64 m.S, .int .i64 m.M, .int .i64 m.L]] w fun e w' => e = .returned (.bool m.ok) ∧ Below w.heap.size w w' := by
  rcases h1 : inB m.C 2 6 with _ | _
  · rw [ok_no1 h1]
    go_enter Try.func68, Try.ntmps68
    go_wp2_with (go_at_call 104; (first | with_reducible refine (l01In_at _ _ _ _ _ h1).mono ?_); rintro e w' ⟨rfl, rfl⟩)
    go_ret
    exact ⟨rfl, (Below.refl _ _).alloc (Nat.le_refl _) _⟩
  rcases h2 : inB m.D 2 8 with _ | _
  · rw [ok_no2 h2]
    go_enter Try.func68, Try.ntmps68
    go_wp2_with (go_at_call 104; (first | with_reducible refine (l01In_at _ _ _ _ _ h1).mono ?_ | with_reducible refine (l01In_at _ _ _ _ _ h2).mono ?_); rintro e w' ⟨rfl, rfl⟩)
    go_ret
    exact ⟨rfl, (Below.refl _ _).alloc (Nat.le_refl _) _⟩
  rcases h3 : inB m.S 1 (m.D - 1) with _ | _
  · rw [ok_no3 h3]
    obtain ⟨d0, d1⟩ := inB_true.1 h2
    go_enter Try.func68, Try.ntmps68
    go_wp2_with (go_at_call 104; (first | with_reducible refine (l01In_at _ _ _ _ _ h1).mono ?_ | with_reducible refine (l01In_at _ _ _ _ _ h2).mono ?_ | with_reducible refine (l01In_at _ _ _ _ _ h3).mono ?_); rintro e w' ⟨rfl, rfl⟩)
    go_ret
    exact ⟨rfl, (Below.refl _ _).alloc (Nat.le_refl _) _⟩
  rcases h4 : inB m.M 1 m.C with _ | _
  · rw [ok_no4 h4]
    obtain ⟨d0, d1⟩ := inB_true.1 h2
    go_enter Try.func68, Try.ntmps68
    go_wp2_with (go_at_call 104; (first | with_reducible refine (l01In_at _ _ _ _ _ h1).mono ?_ | with_reducible refine (l01In_at _ _ _ _ _ h2).mono ?_ | with_reducible refine (l01In_at _ _ _ _ _ h3).mono ?_ | with_reducible refine (l01In_at _ _ _ _ _ h4).mono ?_); rintro e w' ⟨rfl, rfl⟩)
    go_ret
    exact ⟨rfl, (Below.refl _ _).alloc (Nat.le_refl _) _⟩
  rw [ok_same h1 h2 h3 h4]
  by_cases hcd : m.C ≤ m.D
  all_goals
    first | rw [Int.min_eq_left hcd] | rw [Int.min_eq_right (by omega)]
    generalize h5 : inB m.L 1 _ = q
    obtain ⟨d0, d1⟩ := inB_true.1 h2
    go_enter Try.func68, Try.ntmps68
    go_wp2_with (go_at_call 104; (first | with_reducible refine (l01In_at _ _ _ _ _ h1).mono ?_ | with_reducible refine (l01In_at _ _ _ _ _ h2).mono ?_ | with_reducible refine (l01In_at _ _ _ _ _ h3).mono ?_ | with_reducible refine (l01In_at _ _ _ _ _ h4).mono ?_ | with_reducible refine (l01In_at _ _ _ _ _ h5).mono ?_); rintro e w' ⟨rfl, rfl⟩)
    go_ret
    exact ⟨rfl, (Below.refl _ _).alloc (Nat.le_refl _) _⟩

end Go.Proofs.Ytgbicepneonkfaa

namespace Go.Proofs.Ytgbicepneonkfaa
open Go.RowKit

/-- a block that holds a maker -/
def Boxed (w : World) (b : Nat) (t : TypeId) (m : Mk) : Prop := w.heap[b]? = some (.cells #[.int .i64 m.C, .int .i64 m.D, .int .i64 m.S, .int .i64 m.M, .int .i64 m.L] t (0, 0))
theorem Boxed.lt {w : World} {b : Nat} {t : TypeId} {m : Mk} (h : Boxed w b t m) : b < w.heap.size := by
  rcases Nat.lt_or_ge b w.heap.size with hlt | hge
  · exact hlt
  · unfold Boxed at h; rw [Array.getElem?_eq_none hge] at h; cases h
theorem Boxed.new (w : World) (t : TypeId) (m : Mk) : Boxed (w.alloc (.cells #[.int .i64 m.C, .int .i64 m.D, .int .i64 m.S, .int .i64 m.M, .int .i64 m.L] t)) w.heap.size t m := heap_alloc_new w _
theorem Boxed.below {w w' : World} {b B : Nat} {t : TypeId} {m : Mk} (h : Boxed w b t m) (hb : Below B w w') (hB : b < B) : Boxed w' b t m := (hb.block b hB).trans h
theorem Boxed.on {w w' : World} {b : Nat} {t : TypeId} {m : Mk} (h : Boxed w b t m) (hb : Below w.heap.size w w') : Boxed w' b t m := h.below hb h.lt
theorem Boxed.drewN {w : World} {b : Nat} {t : TypeId} {m : Mk} (h : Boxed w b t m) (n : Nat) : Boxed (w.drewN n) b t m := h
theorem Boxed.alloc {w : World} {b : Nat} {t : TypeId} {m : Mk} (h : Boxed w b t m) (o : Obj) : Boxed (w.alloc o) b t m := (Below.heap_alloc w o b h.lt).trans h
theorem Boxed.grown {w w' : World} {b : Nat} {t : TypeId} {m : Mk} {row : Option Nat} (h : Boxed w b t m) (hg : w.grownBy w' row) (hr : some b ≠ row) : Boxed w' b t m := (hg.block b h.lt hr).trans h
theorem Boxed.cells {w : World} {b : Nat} {t : TypeId} {m : Mk} (h : Boxed w b t m) : w.cell? ⟨b, 0, none⟩ = some (.int .i64 m.C) ∧ w.cell? ⟨b, 1, none⟩ = some (.int .i64 m.D) ∧ w.cell? ⟨b, 2, none⟩ = some (.int .i64 m.S) ∧ w.cell? ⟨b, 3, none⟩ = some (.int .i64 m.M) ∧ w.cell? ⟨b, 4, none⟩ = some (.int .i64 m.L) := by
  unfold Boxed at h
  refine ⟨?_, ?_, ?_, ?_, ?_⟩ <;> simp [World.cell?, h]

theorem toMaker_any (m : Mk) (w : World) :
    Calls Try.prog 50 #[.agg #[.int .i64 m.C, .int .i64 m.D, .int .i64 m.S, .int .i64 m.M, .int .i64 m.L]] w
      fun e w' => e = .returned (.agg #[.int .i64 m.C, .int .i64 m.D, .int .i64 m.S, .int .i64 m.M, .int .i64 m.L]) ∧ Below w.heap.size w w' := by
  go_enter Try.func50, Try.ntmps50
  go_wp2
  refine bodyPost_ret (v := .agg #[.int .i64 m.C, .int .i64 m.D, .int .i64 m.S, .int .i64 m.M, .int .i64 m.L]) (by simp [results, Try.results50, go_sem]) rfl ⟨rfl, ?_⟩
  exact (((Below.refl w.heap.size w).alloc (Nat.le_refl _) _).alloc (by simp) _).alloc (by simp; omega) _

end Go.Proofs.Ytgbicepneonkfaa

namespace Go.Proofs.Ytgbicepneonkfaa

theorem getD_at {xs : List Int} {k : Nat} {v : Int} (hv : xs[k]? = some v) : xs.getD k 0 = v := by
  rw [List.getD_eq_getElem?_getD, hv]; rfl
theorem not_all_range {p : Nat → Bool} {n k : Nat} (hk : k < n) (h : p k = false) : (List.range n).all p = false := by
  rw [List.all_eq_false]
  exact ⟨k, by simp; omega, by simp [h]⟩
theorem all_range {p : Nat → Bool} {n k : Nat} (hk : ¬ k < n) (h : ∀ j, j < k → p j = true) : (List.range n).all p = true := by
  rw [List.all_eq_true]
  intro j hj
  exact h j (by have := List.mem_range.1 hj; omega)
theorem all_next {p : Nat → Bool} {k : Nat} (h : ∀ j, j < k → p j = true) (hk : p k = true) : ∀ j, j < k + 1 → p j = true := by
  intro j hj
  by_cases e : j = k
  · subst e; exact hk
  · exact h j (by omega)
theorem all_range_at {p : Nat → Bool} {n k : Nat} (h : (List.range n).all p = true) (hk : k < n) : p k = true :=
  List.all_eq_true.1 h k (List.mem_range.2 hk)

/-- rule 3, at place j -/
def stepAt (S : Int) (xs : List Int) (j : Nat) : Bool := decide (j = 0) || inB (xs.getD j 0 - xs.getD (j - 1) 0) (-S) S
def stepsB (S : Int) (xs : List Int) : Bool := (List.range xs.length).all (stepAt S xs)
/-- how many equal cuts follow one another before place j -/
def runAt (xs : List Int) : Nat → Nat
  | 0 => 0
  | j + 1 => if 0 < j ∧ xs.getD j 0 ≠ xs.getD (j - 1) 0 then 1 else runAt xs j + 1
/-- rule 4, at place j -/
def runOk (M : Int) (xs : List Int) (j : Nat) : Bool := decide ((runAt xs (j + 1) : Int) ≤ M)
def runsB (M : Int) (xs : List Int) : Bool := (List.range xs.length).all (runOk M xs)
/-- how many different cuts are among the first j -/
def kindsAt (xs : List Int) : Nat → Nat
  | 0 => 0
  | j + 1 => kindsAt xs j + if (xs.take j).any (fun v => decide (v = xs.getD j 0)) = true then 0 else 1
def kinds (xs : List Int) : Nat := kindsAt xs xs.length

theorem runAt_le (xs : List Int) (j : Nat) : runAt xs j ≤ j := by
  induction j with
  | zero => simp [runAt]
  | succ j ih => unfold runAt; split <;> omega
theorem kindsAt_le (xs : List Int) (j : Nat) : kindsAt xs j ≤ j := by
  induction j with
  | zero => simp [kindsAt]
  | succ j ih => unfold kindsAt; split <;> omega
theorem kinds_le (xs : List Int) : kinds xs ≤ xs.length := kindsAt_le _ _
theorem run_new {xs : List Int} {j : Nat} {u v : Int} (hv : xs[j]? = some v) (hu : xs[j - 1]? = some u) (hj : 0 < j) (h : v ≠ u) : runAt xs (j + 1) = 1 := by
  unfold runAt; rw [if_pos ⟨hj, by rw [getD_at hv, getD_at hu]; exact h⟩]
theorem run_on {xs : List Int} {j : Nat} {u v : Int} (hv : xs[j]? = some v) (hu : xs[j - 1]? = some u) (h : v = u) : runAt xs (j + 1) = runAt xs j + 1 := by
  show (if _ then _ else _) = _
  rw [if_neg]
  rw [getD_at hv, getD_at hu]; exact fun h' => h'.2 h
theorem run_first {xs : List Int} {j : Nat} (hj : ¬ 0 < j) : runAt xs (j + 1) = runAt xs j + 1 := by
  show (if _ then _ else _) = _
  rw [if_neg (fun h => hj h.1)]
theorem step_first' {S : Int} {xs : List Int} {j : Nat} (hj : ¬ 0 < j) : stepAt S xs j = true := by
  unfold stepAt; rw [decide_eq_true (show j = 0 by omega)]; rfl
theorem step_is {S u v : Int} {xs : List Int} {j : Nat} (hv : xs[j]? = some v) (hu : xs[j - 1]? = some u) (hj : 0 < j) : stepAt S xs j = inB (v - u) (-S) S := by
  unfold stepAt; rw [getD_at hv, getD_at hu, decide_eq_false (show ¬ j = 0 by omega)]; rfl

/-- the number of the first rule that cuts do not keep -/
def faultV (m : Mk) (xs : List Int) : Int :=
  if (xs.length : Int) ≠ m.C then 1 else if allIn 0 (m.D - 1) xs = false then 2 else if stepsB m.S xs = false then 3 else if runsB m.M xs = false then 4 else if (kinds xs : Int) < m.L then 5 else 0
theorem fault1 {m : Mk} {xs : List Int} (h : (xs.length : Int) ≠ m.C) : faultV m xs = 1 := by unfold faultV; rw [if_pos h]
theorem fault2 {m : Mk} {xs : List Int} (h1 : (xs.length : Int) = m.C) (h : allIn 0 (m.D - 1) xs = false) : faultV m xs = 2 := by unfold faultV; rw [if_neg (by simp [h1]), if_pos h]
theorem fault3 {m : Mk} {xs : List Int} (h1 : (xs.length : Int) = m.C) (h2 : allIn 0 (m.D - 1) xs = true) (h : stepsB m.S xs = false) : faultV m xs = 3 := by
  unfold faultV; rw [if_neg (by simp [h1]), if_neg (by simp [h2]), if_pos h]
theorem fault4 {m : Mk} {xs : List Int} (h1 : (xs.length : Int) = m.C) (h2 : allIn 0 (m.D - 1) xs = true) (h3 : stepsB m.S xs = true) (h : runsB m.M xs = false) : faultV m xs = 4 := by
  unfold faultV; rw [if_neg (by simp [h1]), if_neg (by simp [h2]), if_neg (by simp [h3]), if_pos h]
theorem fault5 {m : Mk} {xs : List Int} (h1 : (xs.length : Int) = m.C) (h2 : allIn 0 (m.D - 1) xs = true) (h3 : stepsB m.S xs = true) (h4 : runsB m.M xs = true) (h : (kinds xs : Int) < m.L) : faultV m xs = 5 := by
  unfold faultV; rw [if_neg (by simp [h1]), if_neg (by simp [h2]), if_neg (by simp [h3]), if_neg (by simp [h4]), if_pos h]
theorem fault0 {m : Mk} {xs : List Int} (h1 : (xs.length : Int) = m.C) (h2 : allIn 0 (m.D - 1) xs = true) (h3 : stepsB m.S xs = true) (h4 : runsB m.M xs = true) (h : ¬ (kinds xs : Int) < m.L) : faultV m xs = 0 := by
  unfold faultV; rw [if_neg (by simp [h1]), if_neg (by simp [h2]), if_neg (by simp [h3]), if_neg (by simp [h4]), if_neg h]

end Go.Proofs.Ytgbicepneonkfaa

namespace Go.Proofs.Ytgbicepneonkfaa
open Go.RowKit

theorem hasAllChambers_any (m : Mk) (A : Option Addr) (n c : Nat) (w : World) :
    Calls Try.prog 141 #[.agg #[.int .i64 m.C, .int .i64 m.D, .int .i64 m.S, .int .i64 m.M, .int .i64 m.L], .slice A n c] w
      fun e w' => e = .returned (.bool ((n : Int) == m.C)) ∧ Below w.heap.size w w' := by
  go_enter Try.func141, Try.ntmps141
  go_wp2
  go_ret
  exact ⟨rfl, (Below.refl _ _).alloc (Nat.le_refl _) _⟩

theorem hasOnlyDepths_any (m : Mk) (A : Option Addr) (n c : Nat) (xs : List Int) (w : World) (h : Ints w w.heap.size A n xs) (hn : n ≤ 1048576) (d0 : 2 ≤ m.D) (d1 : m.D ≤ 8) :
    Calls Try.prog 142 #[.agg #[.int .i64 m.C, .int .i64 m.D, .int .i64 m.S, .int .i64 m.M, .int .i64 m.L], .slice A n c] w
      fun e w' => e = .returned (.bool (allIn 0 (m.D - 1) xs)) ∧ Below w.heap.size w w' := by
  have HL := Lib.hid h.len
  have b0 := (Below.refl w.heap.size w).alloc (Nat.le_refl _) (.cells #[.int .i64 m.C, .int .i64 m.D, .int .i64 m.S, .int .i64 m.M, .int .i64 m.L] 25)
  have h' := h.below b0
  go_enter Try.func142, Try.ntmps142
  go_wp2
  go_loop [9] (fun i => ∃ k : Nat, k ≤ n ∧ i = .int .i64 k ∧ Hid (allIn 0 (m.D - 1) (xs.take k) = true)) (fun i => n - (intOf i).toNat)
  case atStart => exact ⟨0, Nat.zero_le _, rfl, Lib.hid rfl⟩
  case round =>
    obtain ⟨k, hk, rfl, hall⟩ := hrel
    by_cases hlt : k < n
    · obtain ⟨ad, v, rfl, hab, hv, hc⟩ := h'.at_ hlt
      have HV := Lib.hid hv
      clear hv
      rcases hq : inB v 0 (m.D - 1) with _ | _
      · go_wp2_with (go_at_call 71; refine (isWithin_at _ _ _ _ _ hq).mono ?_; rintro e w' ⟨rfl, rfl⟩)
        go_ret
        exact ⟨ret_bool (allIn_no HV.out hq).symm, b0⟩
      · go_wp2_with (go_at_call 71; refine (isWithin_at _ _ _ _ _ hq).mono ?_; rintro e w' ⟨rfl, rfl⟩)
        go_round
        case rel => exact ⟨k + 1, by omega, by go_num, Lib.hid (allIn_step HV.out hall.out hq)⟩
        case measure => simp [intOf]; omega
    · have HA : Hid (allIn 0 (m.D - 1) xs = true) := by rw [← take_end HL.out hlt]; exact hall
      clear hall
      go_wp2
      go_ret
      exact ⟨ret_bool HA.out.symm, b0⟩

theorem isStep_any (m : Mk) (a b : Int) (w : World) (a0 : 0 ≤ a) (a1 : a ≤ 7) (b0 : 0 ≤ b) (b1 : b ≤ 7) (s0 : 1 ≤ m.S) (s1 : m.S ≤ 7) :
    Calls Try.prog 146 #[.agg #[.int .i64 m.C, .int .i64 m.D, .int .i64 m.S, .int .i64 m.M, .int .i64 m.L], .int .i64 a, .int .i64 b] w
      fun e w' => e = .returned (.bool (inB (b - a) (-m.S) m.S)) ∧ Below w.heap.size w w' := by
  go_enter Try.func146, Try.ntmps146
  go_wp2_with (go_at_call 71; refine (isWithin_any _ _ _ _).mono ?_; rintro e w' ⟨rfl, rfl⟩)
  go_ret
  exact ⟨rfl, (Below.refl _ _).alloc (Nat.le_refl _) _⟩

theorem isStep_at (m : Mk) (a b : Int) (w : World) (q : Bool) (hq : inB (b - a) (-m.S) m.S = q) (a0 : 0 ≤ a) (a1 : a ≤ 7) (b0 : 0 ≤ b) (b1 : b ≤ 7) (s0 : 1 ≤ m.S) (s1 : m.S ≤ 7) :
    Calls Try.prog 146 #[.agg #[.int .i64 m.C, .int .i64 m.D, .int .i64 m.S, .int .i64 m.M, .int .i64 m.L], .int .i64 a, .int .i64 b] w
      fun e w' => e = .returned (.bool q) ∧ Below w.heap.size w w' := by
  subst hq; exact isStep_any m a b w a0 a1 b0 b1 s0 s1

set_option maxRecDepth 100000 in
theorem hasSmallSteps_any (m : Mk) (A : Option Addr) (n c : Nat) (xs : List Int) (w : World) (h : Ints w w.heap.size A n xs) (hn : n ≤ 1048576) (hm : m.ok = true) (hd : allIn 0 (m.D - 1) xs = true) :
    Calls Try.prog 143 #[.agg #[.int .i64 m.C, .int .i64 m.D, .int .i64 m.S, .int .i64 m.M, .int .i64 m.L], .slice A n c] w
      fun e w' => e = .returned (.bool (stepsB m.S xs)) ∧ Below w.heap.size w w' := by
  obtain ⟨m1, m2, m3, m4, m5, m6, m7, m8, m9, m10, m11⟩ := Mk.ok_true hm
  have HM := Lib.hid hm
  have HD := Lib.hid hd
  clear hm hd
  have HL := Lib.hid h.len
  have b0 := (Below.refl w.heap.size w).alloc (Nat.le_refl _) (.cells #[.int .i64 m.C, .int .i64 m.D, .int .i64 m.S, .int .i64 m.M, .int .i64 m.L] 25)
  have hx := Boxed.new w 25 m
  go_enter Try.func143, Try.ntmps143
  go_wp2
  go_loopw [5] (fun i wr => ∃ k : Nat, 1 ≤ k ∧ k ≤ n + 1 ∧ i = .int .i64 k ∧ Hid (∀ j, j < k → stepAt m.S xs j = true) ∧ Boxed wr w.heap.size 25 m ∧ Below w.heap.size w wr) (fun i _ => n + 1 - (intOf i).toNat)
  case atStart => exact ⟨1, by omega, by omega, rfl, Lib.hid (fun j hj => step_first' (by omega)), hx, b0⟩
  case round =>
    obtain ⟨k, hk1, hk, rfl, hall, hbox, hb⟩ := hrel
    have hi := h.below hb
    have hlt0 := hbox.lt
    by_cases hlt : k < n
    · obtain ⟨ad, v, rfl, hab, hv, hc⟩ := hi.at_ hlt
      obtain ⟨ad', u, e, _, hu, hc'⟩ := hi.at_ (show k - 1 < n by omega)
      obtain rfl : ad = ad' := by injection e
      clear e
      obtain ⟨v0, v1⟩ := allIn_at HD.out hv
      obtain ⟨u0, u1⟩ := allIn_at HD.out hu
      have HV := Lib.hid hv
      have HU := Lib.hid hu
      clear hv hu
      obtain ⟨q0, q1, q2, q3, q4⟩ := hbox.cells
      have HX := Lib.hid hbox
      clear hbox
      have s1 : IntKind.i64.wrap ((k : Int) - 1) = (k : Int) - 1 := IntWalk.i64_in _ (by omega)
      have s2 : 0 ≤ (k : Int) - 1 := by omega
      have s3 : ((k : Int) - 1).toNat = k - 1 := by omega
      have s4 : (k : Int) - 1 < (n : Int) := by omega
      have s5 : (1 : Int) ≤ (k : Int) := by omega
      have s6 : (0 : Int) ≤ (k : Int) := by omega
      have s7 : (k : Int) < (n : Int) := by omega
      rcases hq : inB (v - u) (-m.S) m.S with _ | _
      · go_wp2
        go_region_held3 (fun w' => w'.cell? ⟨w.heap.size, 0, none⟩ = some (.int .i64 m.C) ∧ w'.cell? ⟨w.heap.size, 1, none⟩ = some (.int .i64 m.D) ∧ w'.cell? ⟨w.heap.size, 2, none⟩ = some (.int .i64 m.S) ∧ w'.cell? ⟨w.heap.size, 3, none⟩ = some (.int .i64 m.M) ∧ w'.cell? ⟨w.heap.size, 4, none⟩ = some (.int .i64 m.L) ∧ w'.cell? (ad.add k) = some (.int .i64 v) ∧ w'.cell? (ad.add (k - 1)) = some (.int .i64 u))
          (first | go_keep | (go_split_ands; refine ⟨?_, ?_, ?_, ?_, ?_, ?_, ?_⟩ <;> (rw [b1.cell (by first | (simp; omega) | (rw [block_of_add]; simp; omega))]; assumption)))
          (first | (go_at_call 146; refine (isStep_at m u v _ _ hq (by omega) (by omega) (by omega) (by omega) (by omega) (by omega)).mono ?_; rintro e w1 ⟨rfl, b1⟩))
        clear s1 s2 s3 s4 s5 s6 s7 q0 q1 q2 q3 q4 hc hc'
        go_wp2
        go_ret
        exact ⟨ret_bool (not_all_range (by rw [HL.out]; exact hlt) (by rw [step_is HV.out HU.out (by omega)]; exact hq)).symm, hb.trans (((below_drewN (Below.refl wr.heap.size wr) 1).trans b1).mono hb.size)⟩
      · go_wp2
        go_region_held3 (fun w' => w'.cell? ⟨w.heap.size, 0, none⟩ = some (.int .i64 m.C) ∧ w'.cell? ⟨w.heap.size, 1, none⟩ = some (.int .i64 m.D) ∧ w'.cell? ⟨w.heap.size, 2, none⟩ = some (.int .i64 m.S) ∧ w'.cell? ⟨w.heap.size, 3, none⟩ = some (.int .i64 m.M) ∧ w'.cell? ⟨w.heap.size, 4, none⟩ = some (.int .i64 m.L) ∧ w'.cell? (ad.add k) = some (.int .i64 v) ∧ w'.cell? (ad.add (k - 1)) = some (.int .i64 u))
          (first | go_keep | (go_split_ands; refine ⟨?_, ?_, ?_, ?_, ?_, ?_, ?_⟩ <;> (rw [b1.cell (by first | (simp; omega) | (rw [block_of_add]; simp; omega))]; assumption)))
          (first | (go_at_call 146; refine (isStep_at m u v _ _ hq (by omega) (by omega) (by omega) (by omega) (by omega) (by omega)).mono ?_; rintro e w1 ⟨rfl, b1⟩))
        clear s1 s2 s3 s4 s5 s6 s7 q0 q1 q2 q3 q4 hc hc'
        have X1 := Lib.hid (HX.out.on (w' := w1) ((below_drewN (Below.refl _ _) 1).trans b1))
        have B1 := Lib.hid (hb.trans (((below_drewN (Below.refl wr.heap.size wr) 1).trans b1).mono hb.size))
        clear b1
        go_wp2
        go_roundw
        case rel => exact ⟨k + 1, by omega, by omega, by go_num, Lib.hid (all_next hall.out (by rw [step_is HV.out HU.out (by omega)]; exact hq)), X1.out, B1.out⟩
        case measure => simp [intOf]; omega
    · have HA : Hid (stepsB m.S xs = true) := Lib.hid (all_range (n := xs.length) (k := k) (by rw [HL.out]; exact hlt) hall.out)
      clear hall
      go_wp2
      go_ret
      exact ⟨ret_bool HA.out.symm, hb⟩

end Go.Proofs.Ytgbicepneonkfaa

namespace Go.Proofs.Ytgbicepneonkfaa
open Go.RowKit

set_option maxRecDepth 100000 in
theorem hasShortRuns_any (m : Mk) (A : Option Addr) (n c : Nat) (xs : List Int) (w : World) (h : Ints w w.heap.size A n xs) (hn : n ≤ 1048576) :
    Calls Try.prog 144 #[.agg #[.int .i64 m.C, .int .i64 m.D, .int .i64 m.S, .int .i64 m.M, .int .i64 m.L], .slice A n c] w
      fun e w' => e = .returned (.bool (runsB m.M xs)) ∧ Below w.heap.size w w' := by
  have HL := Lib.hid h.len
  have b0 := (Below.refl w.heap.size w).alloc (Nat.le_refl _) (.cells #[.int .i64 m.C, .int .i64 m.D, .int .i64 m.S, .int .i64 m.M, .int .i64 m.L] 25)
  have hi := h.below b0
  go_enter Try.func144, Try.ntmps144
  go_wp2
  go_loop [5, 10] (fun r i => ∃ k : Nat, k ≤ n ∧ i = .int .i64 k ∧ r = .int .i64 (runAt xs k) ∧ Hid (∀ j, j < k → runOk m.M xs j = true)) (fun _ i => n - (intOf i).toNat)
  case atStart => exact ⟨0, Nat.zero_le _, rfl, rfl, Lib.hid (fun j hj => absurd hj (by omega))⟩
  case round =>
    obtain ⟨k, hk, rfl, rfl, hall⟩ := hrel
    have hr := runAt_le xs k
    have hr1 := runAt_le xs (k + 1)
    by_cases hlt : k < n
    · obtain ⟨ad, v, rfl, hab, hv, hc⟩ := hi.at_ hlt
      have HV := Lib.hid hv
      clear hv
      by_cases h3 : 0 < k
      · obtain ⟨ad', u, e, _, hu, hc'⟩ := hi.at_ (show k - 1 < n by omega)
        obtain rfl : ad = ad' := by injection e
        clear e
        have HU := Lib.hid hu
        clear hu
        by_cases h4 : v = u
        · have HR := Lib.hid (run_on HV.out HU.out h4)
          have h4' : (v != u) = false := by simp [h4]
          clear h4
          by_cases h5 : m.M < (runAt xs k : Int) + 1
          · go_wp2
            go_ret
            exact ⟨ret_bool (not_all_range (by rw [HL.out]; exact hlt) (by unfold runOk; rw [HR.out]; simp; omega)).symm, b0⟩
          · go_wp2
            go_round
            case rel => exact ⟨k + 1, by omega, by go_num, by rw [HR.out]; go_num, Lib.hid (all_next hall.out (by unfold runOk; rw [HR.out]; simp; omega))⟩
            case measure => simp [intOf]; omega
        · have HR := Lib.hid (run_new HV.out HU.out h3 h4)
          have h4' : (v != u) = true := by simp [h4]
          clear h4
          by_cases h5 : m.M < 1
          · go_wp2
            go_ret
            exact ⟨ret_bool (not_all_range (by rw [HL.out]; exact hlt) (by unfold runOk; rw [HR.out]; simp; omega)).symm, b0⟩
          · go_wp2
            go_round
            case rel => exact ⟨k + 1, by omega, by go_num, by rw [HR.out]; go_num, Lib.hid (all_next hall.out (by unfold runOk; rw [HR.out]; simp; omega))⟩
            case measure => simp [intOf]; omega
      · have HR := Lib.hid (run_first (xs := xs) h3)
        by_cases h5 : m.M < (runAt xs k : Int) + 1
        · go_wp2
          go_ret
          exact ⟨ret_bool (not_all_range (by rw [HL.out]; exact hlt) (by unfold runOk; rw [HR.out]; simp; omega)).symm, b0⟩
        · go_wp2
          go_round
          case rel => exact ⟨k + 1, by omega, by go_num, by rw [HR.out]; go_num, Lib.hid (all_next hall.out (by unfold runOk; rw [HR.out]; simp; omega))⟩
          case measure => simp [intOf]; omega
    · have HA : Hid (runsB m.M xs = true) := Lib.hid (all_range (n := xs.length) (k := k) (by rw [HL.out]; exact hlt) hall.out)
      clear hall
      go_wp2
      go_ret
      exact ⟨ret_bool HA.out.symm, b0⟩

/-- whether a depth is among the first k cuts -/
def seenB (xs : List Int) (k : Nat) (v : Int) : Bool := (xs.take k).any (fun x => decide (x = v))
def seenV (xs : List Int) (k : Nat) (i : Nat) : Value := .bool (seenB xs k (i : Int))
theorem seen_same {xs : List Int} {k : Nat} {v : Int} (hv : xs[k]? = some v) (h : seenB xs k v = true) (i : Nat) : seenV xs k i = seenV xs (k + 1) i := by
  obtain ⟨hk, rfl⟩ := List.getElem?_eq_some_iff.1 hv
  unfold seenV seenB at *
  rw [List.take_succ_eq_append_getElem hk, List.any_append]
  simp only [List.any_cons, List.any_nil, Bool.or_false]
  by_cases e : xs[k] = (i : Int)
  · rw [← e, h]; rfl
  · simp [e]
theorem seen_set {xs : List Int} {k : Nat} {v : Int} (hv : xs[k]? = some v) (h0 : 0 ≤ v) (i : Nat) : (if i = v.toNat then Value.bool true else seenV xs k i) = seenV xs (k + 1) i := by
  obtain ⟨hk, rfl⟩ := List.getElem?_eq_some_iff.1 hv
  unfold seenV seenB
  rw [List.take_succ_eq_append_getElem hk, List.any_append]
  simp only [List.any_cons, List.any_nil, Bool.or_false]
  by_cases e : i = (xs[k]).toNat
  · rw [if_pos e, decide_eq_true (by omega), Bool.or_true]
  · rw [if_neg e, decide_eq_false (by omega), Bool.or_false]
theorem kinds_old {xs : List Int} {k : Nat} {v : Int} (hv : xs[k]? = some v) (h : seenB xs k v = true) : kindsAt xs (k + 1) = kindsAt xs k := by
  show kindsAt xs k + (if seenB xs k (xs.getD k 0) = true then 0 else 1) = _
  rw [getD_at hv, if_pos h, Nat.add_zero]
theorem kinds_new {xs : List Int} {k : Nat} {v : Int} (hv : xs[k]? = some v) (h : seenB xs k v = false) : kindsAt xs (k + 1) = kindsAt xs k + 1 := by
  show kindsAt xs k + (if seenB xs k (xs.getD k 0) = true then 0 else 1) = _
  rw [getD_at hv, if_neg (by simp [h])]

set_option maxRecDepth 100000 in
theorem hasEnoughCuts_any (m : Mk) (A : Option Addr) (n c : Nat) (xs : List Int) (w : World) (h : Ints w w.heap.size A n xs) (hn : n ≤ 1048576) (hm : m.ok = true) (hd : allIn 0 (m.D - 1) xs = true) :
    Calls Try.prog 145 #[.agg #[.int .i64 m.C, .int .i64 m.D, .int .i64 m.S, .int .i64 m.M, .int .i64 m.L], .slice A n c] w
      fun e w' => e = .returned (.bool (decide (m.L ≤ m.C - n + kinds xs))) ∧ Below w.heap.size w w' := by
  obtain ⟨m1, m2, m3, m4, m5, m6, m7, m8, m9, m10, m11⟩ := Mk.ok_true hm
  have HM := Lib.hid hm
  have HD := Lib.hid hd
  clear hm hd
  have HL := Lib.hid h.len
  have b0 := Lib.hid ((Below.refl w.heap.size w).alloc (Nat.le_refl _) (.cells #[.int .i64 m.C, .int .i64 m.D, .int .i64 m.S, .int .i64 m.M, .int .i64 m.L] 25))
  have hx := Lib.hid (Boxed.new w 25 m)
  go_enter Try.func145, Try.ntmps145
  go_wp2
  go_loopw [6, 16] (fun d i wr => ∃ k : Nat, k ≤ n ∧ i = .int .i64 k ∧ d = .int .i64 (m.C - n + kindsAt xs k) ∧ wr.rowIs (w.heap.size + 1) 153 8 (seenV xs k) ∧ Boxed wr w.heap.size 25 m ∧ Below w.heap.size w wr) (fun _ i _ => n - (intOf i).toNat)
  case atStart =>
    refine ⟨0, Nat.zero_le _, rfl, by simp [kindsAt], ⟨#[.bool false, .bool false, .bool false, .bool false, .bool false, .bool false, .bool false, .bool false], ?_, rfl, fun i hi => ?_⟩, hx.out.alloc _, b0.out.alloc (by simp) _⟩
    · have := heap_alloc_new (w.alloc (.cells #[.int .i64 m.C, .int .i64 m.D, .int .i64 m.S, .int .i64 m.M, .int .i64 m.L] 25)) (.cells #[.bool false, .bool false, .bool false, .bool false, .bool false, .bool false, .bool false, .bool false] 153)
      simpa using this
    match i, hi with
    | 0, _ => rfl
    | 1, _ => rfl
    | 2, _ => rfl
    | 3, _ => rfl
    | 4, _ => rfl
    | 5, _ => rfl
    | 6, _ => rfl
    | 7, _ => rfl
  case round =>
    obtain ⟨k, hk, rfl, rfl, hrow, hbox, hb⟩ := hrel
    have hr := kindsAt_le xs k
    obtain ⟨q0, q1, q2, q3, q4⟩ := hbox.cells
    by_cases hlt : k < n
    · obtain ⟨ad, v, rfl, hab, hv, hc⟩ := (h.below hb).at_ hlt
      obtain ⟨v0, v1⟩ := allIn_at HD.out hv
      have v2 : v < 8 := by omega
      have hcell := hrow.cell (show v.toNat < 8 by omega)
      have hfz := hrow.frozen v.toNat
      have HV := Lib.hid hv
      clear hv
      rcases hs : seenB xs k v with _ | _
      · have hcell' : wr.cell? ⟨w.heap.size + 1, v.toNat, none⟩ = some (.bool false) := by
          rw [hcell]; unfold seenV; rw [show ((v.toNat : Nat) : Int) = v by omega, hs]
        have HR := Lib.hid ((hrow.set v.toNat (.bool true)).congr (fun j _ => seen_set HV.out v0 j))
        have HX := Lib.hid (hbox.grown (grown_set (p := ⟨w.heap.size + 1, v.toNat, none⟩) (World.grownBy.refl wr _) rfl (.bool true)) (by simp))
        have HB := Lib.hid (hb.setCell (p := ⟨w.heap.size + 1, v.toNat, none⟩) (by simp) (.bool true))
        have HK := Lib.hid (kinds_new HV.out hs)
        clear hcell hrow hbox hs
        go_wp2
        go_roundw
        case rel => exact ⟨k + 1, by omega, by go_num, by rw [HK.out]; go_num, HR.out, HX.out, HB.out⟩
        case measure => simp [intOf]; omega
      · have hcell' : wr.cell? ⟨w.heap.size + 1, v.toNat, none⟩ = some (.bool true) := by
          rw [hcell]; unfold seenV; rw [show ((v.toNat : Nat) : Int) = v by omega, hs]
        have HR := Lib.hid (hrow.congr (fun j _ => seen_same HV.out hs j))
        have HX := Lib.hid hbox
        have HK := Lib.hid (kinds_old HV.out hs)
        clear hcell hrow hbox hs
        go_wp2
        go_roundw
        case rel => exact ⟨k + 1, by omega, by go_num, by rw [HK.out], HR.out, HX.out, hb⟩
        case measure => simp [intOf]; omega
    · have HK := Lib.hid (show k = n by omega)
      go_wp2
      go_ret
      exact ⟨ret_bool (by unfold kinds; rw [HL.out, HK.out]), hb⟩

end Go.Proofs.Ytgbicepneonkfaa
