/- The keys of a maker in their order: plain functions of lists. No program text. -/
import Derived.Test.YtpabccgndhmcdaaSFault
import Derived.Test.YtpabccgndhmcdaaKText
namespace Go.Proofs.Ytpabccgndhmcdaa

/-! beginnings -/
def beginsB (m : Mk) (xs : List Int) : Bool := stepsB m.S xs && runsB m.M xs
/-- whether a beginning may still become a key -/
def mayB (m : Mk) (xs : List Int) : Bool := allIn 0 (m.D - 1) xs && (stepsB m.S xs && (runsB m.M xs && decide (m.L ≤ m.C - xs.length + kinds xs)))

theorem getD_left {xs ys : List Int} {j : Nat} (h : j < xs.length) : (xs ++ ys).getD j 0 = xs.getD j 0 := by
  rw [List.getD_eq_getElem?_getD, List.getD_eq_getElem?_getD, List.getElem?_append_left h]
theorem stepAt_left {S : Int} {xs ys : List Int} {j : Nat} (h : j < xs.length) : stepAt S (xs ++ ys) j = stepAt S xs j := by
  unfold stepAt
  rw [getD_left h, getD_left (show j - 1 < xs.length by omega)]
theorem runAt_left {xs ys : List Int} : ∀ {j : Nat}, j ≤ xs.length → runAt (xs ++ ys) j = runAt xs j
  | 0, _ => rfl
  | j + 1, h => by
    unfold runAt
    rw [getD_left (show j < xs.length by omega), getD_left (show j - 1 < xs.length by omega), runAt_left (show j ≤ xs.length by omega)]
theorem kindsAt_left {xs ys : List Int} : ∀ {j : Nat}, j ≤ xs.length → kindsAt (xs ++ ys) j = kindsAt xs j
  | 0, _ => rfl
  | j + 1, h => by
    unfold kindsAt
    rw [getD_left (show j < xs.length by omega), kindsAt_left (show j ≤ xs.length by omega), List.take_append_of_le_length (by omega)]
theorem stepsB_left {S : Int} {xs ys : List Int} (h : stepsB S (xs ++ ys) = true) : stepsB S xs = true := by
  unfold stepsB at *
  rw [List.all_eq_true] at *
  intro j hj
  have hj' := List.mem_range.1 hj
  rw [← stepAt_left (ys := ys) hj']
  exact h j (List.mem_range.2 (by rw [List.length_append]; omega))
theorem runsB_left {M : Int} {xs ys : List Int} (h : runsB M (xs ++ ys) = true) : runsB M xs = true := by
  unfold runsB at *
  rw [List.all_eq_true] at *
  intro j hj
  have hj' := List.mem_range.1 hj
  have := h j (List.mem_range.2 (by rw [List.length_append]; omega))
  unfold runOk at *
  rwa [runAt_left (show j + 1 ≤ xs.length by omega)] at this
theorem beginsB_left {m : Mk} {xs ys : List Int} (h : beginsB m (xs ++ ys) = true) : beginsB m xs = true := by
  unfold beginsB at *
  rw [Bool.and_eq_true] at *
  exact ⟨stepsB_left h.1, runsB_left h.2⟩
theorem beginsB_nil (m : Mk) : beginsB m [] = true := rfl
theorem kindsAt_up (xs : List Int) (p : Nat) : ∀ r, kindsAt xs (p + r) ≤ kindsAt xs p + r
  | 0 => Nat.le_refl _
  | r + 1 => by
    have := kindsAt_up xs p r
    show kindsAt xs (p + r) + _ ≤ _
    split <;> omega
theorem kinds_grow (xs ys : List Int) : kinds (xs ++ ys) ≤ kinds xs + ys.length := by
  unfold kinds
  rw [List.length_append]
  have := kindsAt_up (xs ++ ys) xs.length ys.length
  rwa [kindsAt_left (Nat.le_refl _)] at this

/-! all keys that begin with some cuts, in order: k cuts are missing -/
def keysFrom (m : Mk) : Nat → List Int → List (List Int)
  | 0, xs => if beginsB m xs && decide (m.L ≤ (kinds xs : Int)) then [xs] else []
  | k + 1, xs => if beginsB m xs then (List.range m.D.toNat).flatMap (fun (d : Nat) => keysFrom m k (xs ++ [(d : Int)])) else []
/-- .. whose next cut is at least d -/
def tails (m : Mk) (k : Nat) (xs : List Int) (d : Nat) : List (List Int) := ((List.range m.D.toNat).drop d).flatMap (fun (d : Nat) => keysFrom m k (xs ++ [(d : Int)]))

theorem keys_zero_no {m : Mk} {xs : List Int} (h : beginsB m xs = true) (h2 : ¬ m.L ≤ (kinds xs : Int)) : keysFrom m 0 xs = [] := by simp [keysFrom, h, h2]
theorem keys_zero_yes {m : Mk} {xs : List Int} (h : beginsB m xs = true) (h2 : m.L ≤ (kinds xs : Int)) : keysFrom m 0 xs = [xs] := by simp [keysFrom, h, h2]
theorem keys_stop {m : Mk} {k : Nat} {xs : List Int} (h : beginsB m xs = false) : keysFrom m k xs = [] := by cases k <;> simp [keysFrom, h]
theorem keys_succ {m : Mk} {k : Nat} {xs : List Int} (h : beginsB m xs = true) : keysFrom m (k + 1) xs = tails m k xs 0 := by simp [keysFrom, tails, h]
theorem tails_end {m : Mk} {k d : Nat} {xs : List Int} (h : ¬ d < m.D.toNat) : tails m k xs d = [] := by
  unfold tails
  rw [List.drop_of_length_le (by rw [List.length_range]; omega)]; rfl
theorem tails_step {m : Mk} {k d : Nat} {xs : List Int} (h : d < m.D.toNat) : tails m k xs d = keysFrom m k (xs ++ [(d : Int)]) ++ tails m k xs (d + 1) := by
  unfold tails
  rw [List.drop_eq_getElem_cons (by rw [List.length_range]; exact h), List.flatMap_cons, List.getElem_range]

/-- what the keys of the list are -/
theorem keys_facts {m : Mk} : ∀ {k : Nat} {pre xs : List Int}, xs ∈ keysFrom m k pre → xs.length = pre.length + k ∧ xs.take pre.length = pre ∧ beginsB m xs = true ∧ m.L ≤ (kinds xs : Int) ∧ (allIn 0 (m.D - 1) pre = true → 0 ≤ m.D → allIn 0 (m.D - 1) xs = true)
  | 0, pre, xs, h => by
    unfold keysFrom at h
    split at h
    · next hc =>
      rw [Bool.and_eq_true] at hc
      simp at h
      subst h
      exact ⟨rfl, List.take_length, hc.1, by simpa using hc.2, fun h _ => h⟩
    · cases h
  | k + 1, pre, xs, h => by
    unfold keysFrom at h
    split at h
    · rw [List.mem_flatMap] at h
      obtain ⟨d, hd, hx⟩ := h
      obtain ⟨h1, h2, h3, h4, h5⟩ := keys_facts hx
      rw [List.length_append] at h1 h2
      have hd' := List.mem_range.1 hd
      refine ⟨by simp at h1; omega, ?_, h3, h4, fun ha hD => h5 ?_ hD⟩
      · have := congrArg (List.take pre.length) h2
        rw [List.take_take, List.take_left' rfl] at this
        rwa [Nat.min_eq_left (by omega)] at this
      · unfold allIn at *
        rw [List.all_append, ha]
        simp [inB]; omega
    · cases h
/-- .. and that all of them are in it, with those that follow -/
def afterAt (m : Mk) (xs : List Int) (i : Nat) : List (List Int) := tails m (xs.length - 1 - i) (xs.take i) ((xs.getD i 0).toNat + 1)
def down (m : Mk) (xs : List Int) (p : Nat) : Nat → List (List Int)
  | 0 => []
  | r + 1 => afterAt m xs (p + r) ++ down m xs p r
theorem down_front (m : Mk) (xs : List Int) (p : Nat) : ∀ r, down m xs p (r + 1) = down m xs (p + 1) r ++ afterAt m xs p
  | 0 => by simp [down]
  | r + 1 => by
    show afterAt m xs (p + (r + 1)) ++ down m xs p (r + 1) = afterAt m xs (p + 1 + r) ++ down m xs (p + 1) r ++ afterAt m xs p
    rw [down_front m xs p r, show p + (r + 1) = p + 1 + r by omega, List.append_assoc]
theorem take_cut {xs : List Int} {p : Nat} (h : p < xs.length) (h0 : 0 ≤ xs.getD p 0) : xs.take (p + 1) = xs.take p ++ [(((xs.getD p 0).toNat : Nat) : Int)] := by
  have hv : xs[p]? = some xs[p] := List.getElem?_eq_getElem h
  rw [List.take_succ_eq_append_getElem h, getD_at hv]
  rw [getD_at hv] at h0
  rw [show ((xs[p].toNat : Nat) : Int) = xs[p] by omega]
theorem tails_part {m : Mk} {k : Nat} {xs : List Int} : ∀ (d : Nat), d < m.D.toNat → ∃ A, tails m k xs 0 = A ++ (keysFrom m k (xs ++ [(d : Int)]) ++ tails m k xs (d + 1))
  | 0, h => ⟨[], by rw [tails_step h]; rfl⟩
  | d + 1, h => by
    obtain ⟨A, e⟩ := tails_part (m := m) (k := k) (xs := xs) d (by omega)
    refine ⟨A ++ keysFrom m k (xs ++ [(d : Int)]), ?_⟩
    rw [e, tails_step h, List.append_assoc]
theorem keys_part {m : Mk} {xs : List Int} (hb : beginsB m xs = true) (hk : m.L ≤ (kinds xs : Int)) (hd : allIn 0 (m.D - 1) xs = true) (hD : 0 ≤ m.D) :
    ∀ (k p : Nat), p + k = xs.length → ∃ A, keysFrom m k (xs.take p) = A ++ xs :: down m xs p k
  | 0, p, h => by
    have e : xs.take p = xs := List.take_of_length_le (by omega)
    exact ⟨[], by rw [e, keys_zero_yes hb hk]; rfl⟩
  | k + 1, p, h => by
    obtain ⟨A, e⟩ := keys_part hb hk hd hD k (p + 1) (by omega)
    have hp : p < xs.length := by omega
    have hv : xs[p]? = some xs[p] := List.getElem?_eq_getElem hp
    obtain ⟨v0, v1⟩ := allIn_at hd hv
    have hg := getD_at hv
    have h0 : beginsB m (xs.take p) = true := beginsB_left (ys := xs.drop p) (by rw [List.take_append_drop]; exact hb)
    obtain ⟨A2, e2⟩ := tails_part (m := m) (k := k) (xs := xs.take p) (xs.getD p 0).toNat (by rw [hg]; omega)
    refine ⟨A2 ++ A, ?_⟩
    rw [keys_succ h0, e2, ← take_cut hp (by rw [hg]; exact v0), e, down_front]
    have : afterAt m xs p = tails m k (xs.take p) ((xs.getD p 0).toNat + 1) := by
      unfold afterAt
      rw [show xs.length - 1 - p = k by omega]
    rw [this]
    simp only [List.append_assoc, List.cons_append]

/-- the keys that follow some cuts -/
def nextAll (m : Mk) (xs : List Int) : List (List Int) := down m xs 0 xs.length
/-- all keys -/
def allKeys (m : Mk) : List (List Int) := keysFrom m m.C.toNat []

theorem key_of {m : Mk} {xs : List Int} (hm : m.ok = true) (h1 : (xs.length : Int) = m.C) (h2 : allIn 0 (m.D - 1) xs = true) (h3 : beginsB m xs = true) (h4 : m.L ≤ (kinds xs : Int)) : isKeyB m xs = true := by
  unfold beginsB at h3
  rw [Bool.and_eq_true] at h3
  unfold isKeyB
  rw [hm, fault0 h1 h2 h3.1 h3.2 (by omega)]; rfl
theorem all_are_keys {m : Mk} {xs : List Int} (hm : m.ok = true) (h : xs ∈ allKeys m) : isKeyB m xs = true := by
  obtain ⟨h1, _, h3, h4, h5⟩ := keys_facts h
  obtain ⟨m1, m2, m3, _⟩ := Mk.ok_true hm
  exact key_of hm (by simp at h1; omega) (h5 rfl (by omega)) h3 h4
theorem all_at {m : Mk} {xs : List Int} (h : isKeyB m xs = true) : ∃ A, allKeys m = A ++ xs :: nextAll m xs := by
  obtain ⟨f1, f2, f3, f4, f5, f6⟩ := key_facts h
  obtain ⟨m1, m2, m3, _⟩ := Mk.ok_true f1
  have := keys_part (m := m) (xs := xs) (by unfold beginsB; rw [f4, f5]; rfl) f6 f3 (by omega) xs.length 0 (by omega)
  rw [List.take_zero] at this
  unfold allKeys
  rwa [show m.C.toNat = xs.length by omega]

/-- the zigzag: a key of every maker -/
def zigD (D i : Nat) : Int := if i < D then (i : Int) else if (i - D) % 2 = 0 then (D : Int) - 2 else (D : Int) - 1
def zig (C D : Nat) : List Int := (List.range C).map (zigD D)
def zigOk (C D : Nat) : Bool := decide ((zig C D).length = C) && (allIn 0 ((D : Int) - 1) (zig C D) && (stepsB 1 (zig C D) && (runsB 1 (zig C D) && decide (kinds (zig C D) = min C D))))
theorem zig_small : ∀ C ∈ [2, 3, 4, 5, 6], ∀ D ∈ [2, 3, 4, 5, 6, 7, 8], zigOk C D = true := by decide +kernel
theorem stepsB_wide {S S' : Int} {xs : List Int} (h : stepsB S xs = true) (hS : S ≤ S') : stepsB S' xs = true := by
  unfold stepsB at *
  rw [List.all_eq_true] at *
  intro j hj
  have := h j hj
  unfold stepAt at *
  rw [Bool.or_eq_true] at *
  rcases this with h1 | h1
  · exact .inl h1
  · have := inB_true.1 h1
    exact .inr (inB_true.2 (by omega))
theorem runsB_wide {M M' : Int} {xs : List Int} (h : runsB M xs = true) (hM : M ≤ M') : runsB M' xs = true := by
  unfold runsB at *
  rw [List.all_eq_true] at *
  intro j hj
  have := h j hj
  unfold runOk at *
  simp at this ⊢
  omega
theorem zig_key {m : Mk} (hm : m.ok = true) : isKeyB m (zig m.C.toNat m.D.toNat) = true := by
  obtain ⟨m1, m2, m3, m4, m5, m6, m7, m8, m9, m10, m11⟩ := Mk.ok_true hm
  have hz := zig_small m.C.toNat (by simp; omega) m.D.toNat (by simp; omega)
  unfold zigOk at hz
  simp only [Bool.and_eq_true, decide_eq_true_eq] at hz
  obtain ⟨z1, z2, z3, z4, z5⟩ := hz
  refine key_of hm (by omega) ?_ ?_ (by omega)
  · rwa [show ((m.D.toNat : Nat) : Int) = m.D by omega] at z2
  · unfold beginsB
    rw [stepsB_wide z3 m5, runsB_wide z4 m7]; rfl
theorem all_some {m : Mk} (hm : m.ok = true) : allKeys m ≠ [] := by
  obtain ⟨A, e⟩ := all_at (zig_key hm)
  rw [e]
  simp

/-- a beginning that cannot have enough cuts in the end has no keys -/
theorem keys_few {m : Mk} {k : Nat} {xs : List Int} (hl : (xs.length : Int) + k = m.C) (h : ¬ m.L ≤ m.C - xs.length + kinds xs) : keysFrom m k xs = [] := by
  rcases he : keysFrom m k xs with _ | ⟨y, r⟩
  · rfl
  · obtain ⟨h1, h2, _, h4, _⟩ := keys_facts (m := m) (k := k) (pre := xs) (xs := y) (by rw [he]; simp)
    have e : y = xs ++ y.drop xs.length := by
      have := List.take_append_drop xs.length y
      rw [h2] at this
      exact this.symm
    have hk := kinds_grow xs (y.drop xs.length)
    rw [← e, List.length_drop] at hk
    omega
theorem keys_may {m : Mk} {k : Nat} {xs : List Int} (hl : (xs.length : Int) + k = m.C) (hd : allIn 0 (m.D - 1) xs = true) (h : mayB m xs = false) : keysFrom m k xs = [] := by
  rcases hb : beginsB m xs with _ | _
  · exact keys_stop hb
  · refine keys_few hl (fun hL => ?_)
    unfold beginsB at hb
    rw [Bool.and_eq_true] at hb
    unfold mayB at h
    rw [hd, hb.1, hb.2] at h
    simp at h
    omega
theorem may_begins {m : Mk} {xs : List Int} (h : mayB m xs = true) : beginsB m xs = true ∧ m.L ≤ m.C - xs.length + kinds xs := by
  unfold mayB at h
  simp only [Bool.and_eq_true, decide_eq_true_eq] at h
  exact ⟨by unfold beginsB; rw [h.2.1, h.2.2.1]; rfl, h.2.2.2⟩

/-- the first of a list of keys -/
def headL (l : List (List Int)) : List Int := l.head?.getD []

end Go.Proofs.Ytpabccgndhmcdaa
