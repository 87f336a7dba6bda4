/- Openers of a lock, and the lists of a lock from what frees its chambers: plain functions of lists. No program text. -/
import Derived.Test.YtjoknbknhfnggaaKeyMath
import Derived.Test.YtjoknbknhfnggaaDpMath
import Derived.Test.YtjoknbknhfnggaaRise
namespace Go.Proofs.Ytjoknbknhfnggaa

/-- the openers that begin with some cuts, k cuts are missing; p says which depths free a chamber -/
def opFrom (m : Mk) (p : Nat → Nat → Bool) : Nat → List Int → List (List Int)
  | 0, xs => if beginsB m xs && decide (m.L ≤ (kinds xs : Int)) then [xs] else []
  | k + 1, xs => if beginsB m xs then (List.range m.D.toNat).flatMap (fun (d : Nat) => if p xs.length d then opFrom m p k (xs ++ [(d : Int)]) else []) else []
def opTails (m : Mk) (p : Nat → Nat → Bool) (k : Nat) (xs : List Int) (d : Nat) : List (List Int) :=
  ((List.range m.D.toNat).drop d).flatMap (fun (d : Nat) => if p xs.length d then opFrom m p k (xs ++ [(d : Int)]) else [])
/-- the cuts from chamber a on free their chambers -/
def frees (p : Nat → Nat → Bool) (a : Nat) (xs : List Int) : Bool := (List.range xs.length).all (fun i => decide (i < a) || p i (xs.getD i 0).toNat)

theorem filter_none {α : Type} {q : α → Bool} : ∀ {l : List α}, (∀ x ∈ l, q x = false) → l.filter q = []
  | [], _ => rfl
  | x :: l, h => by
    rw [List.filter_cons, h x (List.mem_cons_self ..), filter_none (fun y hy => h y (List.mem_cons_of_mem _ hy))]; rfl
theorem filter_all {α : Type} {q : α → Bool} : ∀ {l : List α}, (∀ x ∈ l, q x = true) → l.filter q = l
  | [], _ => rfl
  | x :: l, h => by
    rw [List.filter_cons, h x (List.mem_cons_self ..), filter_all (fun y hy => h y (List.mem_cons_of_mem _ hy))]; rfl
theorem filter_flat {α β : Type} {q : β → Bool} {f : α → List β} : ∀ l : List α, (l.flatMap f).filter q = l.flatMap (fun x => (f x).filter q)
  | [] => rfl
  | x :: l => by rw [List.flatMap_cons, List.filter_append, filter_flat l, List.flatMap_cons]
theorem frees_here {p : Nat → Nat → Bool} {xs : List Int} : frees p xs.length xs = true := by
  unfold frees
  rw [List.all_eq_true]
  intro i hi
  rw [decide_eq_true (List.mem_range.1 hi)]; rfl
theorem frees_succ {p : Nat → Nat → Bool} {a : Nat} {xs : List Int} (h : a < xs.length) : frees p a xs = (p a (xs.getD a 0).toNat && frees p (a + 1) xs) := by
  rw [Bool.eq_iff_iff, Bool.and_eq_true]
  unfold frees
  rw [List.all_eq_true, List.all_eq_true]
  constructor
  · intro h1
    refine ⟨?_, fun i hi => ?_⟩
    · have := h1 a (List.mem_range.2 h)
      rw [decide_eq_false (by omega : ¬ a < a)] at this
      simpa using this
    · have := h1 i hi
      by_cases hia : i < a
      · rw [decide_eq_true (by omega : i < a + 1)]; rfl
      · rw [decide_eq_false hia] at this
        rw [Bool.false_or] at this
        rw [this, Bool.or_true]
  · rintro ⟨h1, h2⟩ i hi
    have := h2 i hi
    by_cases hia : i = a
    · subst hia; rw [h1, Bool.or_true]
    · by_cases hlt : i < a
      · rw [decide_eq_true hlt]; rfl
      · rw [decide_eq_false (by omega : ¬ i < a + 1), Bool.false_or] at this
        rw [this, Bool.or_true]
theorem frees_at {p : Nat → Nat → Bool} {xs : List Int} (h : frees p 0 xs = true) {i : Nat} (hi : i < xs.length) : p i (xs.getD i 0).toNat = true := by
  unfold frees at h
  have := List.all_eq_true.1 h i (List.mem_range.2 hi)
  rw [decide_eq_false (by omega : ¬ i < 0)] at this
  simpa using this

/-- openers are the keys whose cuts free their chambers -/
theorem op_filter (m : Mk) (p : Nat → Nat → Bool) : ∀ (k : Nat) (xs : List Int), opFrom m p k xs = (keysFrom m k xs).filter (frees p xs.length)
  | 0, xs => by
    unfold opFrom keysFrom
    split
    · rw [List.filter_cons, frees_here]; rfl
    · rfl
  | k + 1, xs => by
    unfold opFrom keysFrom
    split
    · rw [filter_flat]
      refine flat_congr (fun d hd => ?_)
      have hx : ∀ y ∈ keysFrom m k (xs ++ [(d : Int)]), xs.length < y.length ∧ (y.getD xs.length 0).toNat = d := by
        intro y hy
        obtain ⟨h1, h2, _⟩ := keys_facts hy
        rw [List.length_append] at h1 h2
        simp at h1
        refine ⟨by omega, ?_⟩
        have e : y = xs ++ [(d : Int)] ++ y.drop (xs.length + 1) := by
          have := List.take_append_drop (xs.length + 1) y
          simp only [List.length_singleton] at h2
          rw [h2] at this
          exact this.symm
        rw [e, getD_left (by simp), List.getD_eq_getElem?_getD, List.getElem?_append_right (Nat.le_refl _)]
        simp
      by_cases hp : p xs.length d = true
      · rw [if_pos hp, op_filter m p k]
        refine List.filter_congr (fun y hy => ?_)
        obtain ⟨h1, h2⟩ := hx y hy
        rw [List.length_append, frees_succ (a := xs.length) h1, h2, hp]; rfl
      · rw [if_neg hp]
        refine (filter_none (fun y hy => ?_)).symm
        obtain ⟨h1, h2⟩ := hx y hy
        rw [frees_succ h1, h2]
        simp [Bool.not_eq_true _ |>.mp hp]
    · rfl
theorem op_free (m : Mk) (k : Nat) (xs : List Int) : opFrom m (fun _ _ => true) k xs = keysFrom m k xs := by
  rw [op_filter]
  refine filter_all (fun y _ => ?_)
  unfold frees
  simp
/-- all openers -/
def opAll (m : Mk) (p : Nat → Nat → Bool) : List (List Int) := opFrom m p m.C.toNat []
theorem op_all (m : Mk) (p : Nat → Nat → Bool) : opAll m p = (allKeys m).filter (frees p 0) := op_filter m p _ _
theorem op_keys (m : Mk) : opAll m (fun _ _ => true) = allKeys m := op_free m _ _
theorem op_mem {m : Mk} {p : Nat → Nat → Bool} {xs : List Int} (h : xs ∈ opAll m p) : xs ∈ allKeys m ∧ frees p 0 xs = true := by
  rw [op_all, List.mem_filter] at h; exact h
theorem op_congr {m : Mk} {p q : Nat → Nat → Bool} (h : ∀ i d, i < m.C.toNat → d < m.D.toNat → p i d = q i d) : ∀ (k : Nat) (xs : List Int), xs.length + k = m.C.toNat → opFrom m p k xs = opFrom m q k xs
  | 0, xs, _ => rfl
  | k + 1, xs, hk => by
    unfold opFrom
    split
    · refine flat_congr (fun d hd => ?_)
      rw [h xs.length d (by omega) (List.mem_range.1 hd), op_congr h k (xs ++ [(d : Int)]) (by simp; omega)]
    · rfl

theorem op_zero_yes {m : Mk} {p : Nat → Nat → Bool} {xs : List Int} (h : beginsB m xs = true) (h2 : m.L ≤ (kinds xs : Int)) : opFrom m p 0 xs = [xs] := by simp [opFrom, h, h2]
theorem op_zero_no {m : Mk} {p : Nat → Nat → Bool} {xs : List Int} (h : beginsB m xs = true) (h2 : ¬ m.L ≤ (kinds xs : Int)) : opFrom m p 0 xs = [] := by simp [opFrom, h, h2]
theorem op_stop {m : Mk} {p : Nat → Nat → Bool} {k : Nat} {xs : List Int} (h : beginsB m xs = false) : opFrom m p k xs = [] := by cases k <;> simp [opFrom, h]
theorem op_succ {m : Mk} {p : Nat → Nat → Bool} {k : Nat} {xs : List Int} (h : beginsB m xs = true) : opFrom m p (k + 1) xs = opTails m p k xs 0 := by simp [opFrom, opTails, h]
theorem opTails_end {m : Mk} {p : Nat → Nat → Bool} {k d : Nat} {xs : List Int} (h : ¬ d < m.D.toNat) : opTails m p k xs d = [] := by
  unfold opTails
  rw [List.drop_of_length_le (by rw [List.length_range]; omega)]; rfl
theorem opTails_step {m : Mk} {p : Nat → Nat → Bool} {k d : Nat} {xs : List Int} (h : d < m.D.toNat) : opTails m p k xs d = (if p xs.length d then opFrom m p k (xs ++ [(d : Int)]) else []) ++ opTails m p k xs (d + 1) := by
  unfold opTails
  rw [List.drop_eq_getElem_cons (by rw [List.length_range]; exact h), List.flatMap_cons, List.getElem_range]
theorem op_may {m : Mk} {p : Nat → Nat → Bool} {k : Nat} {xs : List Int} (hl : (xs.length : Int) + k = m.C) (hd : allIn 0 (m.D - 1) xs = true) (h : mayB m xs = false) : opFrom m p k xs = [] := by
  rw [op_filter, keys_may hl hd h]; rfl
/-- the openers behind a beginning that k chambers lack -/
def opBehind (m : Mk) (p : Nat → Nat → Bool) (xs : List Int) : Nat → List (List Int)
  | 0 => [xs]
  | k + 1 => opTails m p k xs 0
theorem op_behind {m : Mk} {p : Nat → Nat → Bool} {xs : List Int} {k : Nat} (hl : (xs.length : Int) + k = m.C) (h : mayB m xs = true) : opFrom m p k xs = opBehind m p xs k := by
  obtain ⟨h1, h2⟩ := may_begins h
  cases k with
  | zero => exact op_zero_yes h1 (by omega)
  | succ k => exact op_succ h1
theorem op_all_behind {m : Mk} (hm : m.ok = true) (p : Nat → Nat → Bool) : opBehind m p [] m.C.toNat = opAll m p := by
  obtain ⟨m1, _⟩ := Mk.ok_true hm
  obtain ⟨k, hk⟩ : ∃ k, m.C.toNat = k + 1 := ⟨m.C.toNat - 1, by omega⟩
  unfold opAll
  rw [hk]
  exact (op_succ rfl).symm

/-! sets -/
/-- the lists of a lock -/
def lockOf (C D : Nat) (p : Nat → Nat → Bool) : List (List Int) := (List.range C).map (fun i => setOf D (p i))
/-- what frees the chambers of a lock -/
def setP (L : List (List Int)) (i d : Nat) : Bool := (L.getD i []).any (fun v => decide (v = (d : Int)))

theorem lockOf_congr {C D : Nat} {p q : Nat → Nat → Bool} (h : ∀ i d, i < C → d < D → p i d = q i d) : lockOf C D p = lockOf C D q := by
  unfold lockOf
  exact List.map_congr_left (fun i hi => setOf_congr (fun d hd => h i d (List.mem_range.1 hi) hd))
theorem lockOf_len (C D : Nat) (p : Nat → Nat → Bool) : (lockOf C D p).length = C := by simp [lockOf]
theorem lockOf_at {C D i : Nat} {p : Nat → Nat → Bool} (h : i < C) : (lockOf C D p)[i]? = some (setOf D (p i)) := by
  unfold lockOf; rw [List.getElem?_map, List.getElem?_range h]; rfl
theorem lockOf_snoc (C D : Nat) (p : Nat → Nat → Bool) : lockOf (C + 1) D p = lockOf C D p ++ [setOf D (p C)] := by
  unfold lockOf; rw [List.range_succ, List.map_append]; rfl
theorem setP_lockOf {C D i d : Nat} {p : Nat → Nat → Bool} (hi : i < C) (hd : d < D) : setP (lockOf C D p) i d = p i d := by
  unfold setP
  rw [List.getD_eq_getElem?_getD, lockOf_at hi]
  exact any_setOf hd

/-- IsLock -/
def lockB (m : Mk) (L : List (List Int)) : Bool := m.ok && (decide ((L.length : Int) = m.C) && L.all (fun s => decide (s.length ≠ 0) && riseB m.D s))
theorem lockB_facts {m : Mk} {L : List (List Int)} (h : lockB m L = true) : m.ok = true ∧ (L.length : Int) = m.C ∧ ∀ (i : Nat) (s : List Int), L[i]? = some s → s.length ≠ 0 ∧ riseB m.D s = true := by
  unfold lockB at h
  simp only [Bool.and_eq_true, decide_eq_true_eq] at h
  refine ⟨h.1, h.2.1, fun i s hs => ?_⟩
  have := List.all_eq_true.1 h.2.2 s (List.mem_of_getElem? hs)
  simpa using this
theorem lockB_no {m : Mk} {L : List (List Int)} {i : Nat} {s : List Int} (hs : L[i]? = some s) (h : s.length = 0 ∨ riseB m.D s = false) : lockB m L = false := by
  unfold lockB
  have : L.all (fun s => decide (s.length ≠ 0) && riseB m.D s) = false := by
    rw [List.all_eq_false]
    refine ⟨s, List.mem_of_getElem? hs, ?_⟩
    rcases h with h | h <;> simp [h]
  rw [this, Bool.and_false, Bool.and_false]
theorem lockB_yes {m : Mk} {L : List (List Int)} (h1 : m.ok = true) (h2 : (L.length : Int) = m.C) (h3 : ∀ (i : Nat) (s : List Int), L[i]? = some s → s.length ≠ 0 ∧ riseB m.D s = true) : lockB m L = true := by
  unfold lockB
  rw [h1, decide_eq_true h2, Bool.true_and, Bool.true_and, List.all_eq_true]
  intro s hs
  obtain ⟨i, hi⟩ := List.getElem?_of_mem hs
  have := h3 i s hi
  simp [this.1, this.2]
/-- the lists of a lock, from what frees its chambers -/
theorem lock_is {m : Mk} {L : List (List Int)} (h : lockB m L = true) : lockOf m.C.toNat m.D.toNat (setP L) = L := by
  obtain ⟨h1, h2, h3⟩ := lockB_facts h
  obtain ⟨m1, m2, m3, _⟩ := Mk.ok_true h1
  refine List.ext_getElem? (fun i => ?_)
  rcases Nat.lt_or_ge i L.length with hlt | hge
  · have hi : L[i]? = some L[i] := List.getElem?_eq_getElem hlt
    rw [lockOf_at (by omega), hi]
    have e : setP L i = fun (d : Nat) => (L[i]).any (fun v => decide (v = (d : Int))) := by
      funext d
      unfold setP
      rw [List.getD_eq_getElem?_getD, hi]; rfl
    rw [e, rise_set (by omega) (h3 i _ hi).2]
  · rw [List.getElem?_eq_none (by rw [lockOf_len]; omega), List.getElem?_eq_none hge]

end Go.Proofs.Ytjoknbknhfnggaa
