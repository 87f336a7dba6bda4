/- Mirrored and reversed keys are keys; a maker has always another key. No program text. -/
import Derived.Test.YtpbimekfhdgdoaaReverse
import Derived.Test.YtpbimekfhdgdoaaDpMath
namespace Go.Proofs.Ytpbimekfhdgdoaa

theorem getD_rev {xs : List Int} {t : Nat} (h : t < xs.length) : xs.reverse.getD t 0 = xs.getD (xs.length - 1 - t) 0 := by
  rw [List.getD_eq_getElem?_getD, List.getD_eq_getElem?_getD, List.getElem?_reverse h]
theorem getD_mir {m : Mk} {xs : List Int} {t : Nat} (h : t < xs.length) : (mirL m xs).getD t 0 = m.D - 1 - xs.getD t 0 := by
  unfold mirL
  rw [List.getD_eq_getElem?_getD, List.getD_eq_getElem?_getD, List.getElem?_map, List.getElem?_eq_getElem h]; rfl
theorem inB_neg {a S : Int} : inB (-a) (-S) S = inB a (-S) S := by
  rw [Bool.eq_iff_iff, inB_true, inB_true]; omega
theorem isKey_of {m : Mk} {xs : List Int} (hm : m.ok = true) (h1 : (xs.length : Int) = m.C) (h2 : allIn 0 (m.D - 1) xs = true) (h3 : stepsB m.S xs = true) (h4 : runsB m.M xs = true) (h5 : m.L ≤ (kinds xs : Int)) : isKeyB m xs = true :=
  key_of hm h1 h2 (by unfold beginsB; rw [h3, h4]; rfl) h5

theorem steps_mir {m : Mk} {xs : List Int} (h : stepsB m.S xs = true) : stepsB m.S (mirL m xs) = true := by
  unfold stepsB at *
  rw [mirL_len, List.all_eq_true] at *
  intro j hj
  have hj' := List.mem_range.1 hj
  have := h j hj
  unfold stepAt at *
  rw [getD_mir hj', getD_mir (show j - 1 < xs.length by omega)]
  rw [show m.D - 1 - xs.getD j 0 - (m.D - 1 - xs.getD (j - 1) 0) = -(xs.getD j 0 - xs.getD (j - 1) 0) by omega, inB_neg]
  exact this
theorem runAt_mir {m : Mk} {xs : List Int} : ∀ {j : Nat}, j ≤ xs.length → runAt (mirL m xs) j = runAt xs j
  | 0, _ => rfl
  | j + 1, h => by
    unfold runAt
    rw [getD_mir (show j < xs.length by omega), getD_mir (show j - 1 < xs.length by omega), runAt_mir (show j ≤ xs.length by omega)]
    have e : (0 < j ∧ m.D - 1 - xs.getD j 0 ≠ m.D - 1 - xs.getD (j - 1) 0) ↔ (0 < j ∧ xs.getD j 0 ≠ xs.getD (j - 1) 0) := by
      constructor <;> (rintro ⟨h1, h2⟩; exact ⟨h1, by omega⟩)
    simp only [e]
theorem runs_mir {m : Mk} {xs : List Int} (h : runsB m.M xs = true) : runsB m.M (mirL m xs) = true := by
  unfold runsB at *
  rw [mirL_len, List.all_eq_true] at *
  intro j hj
  have hj' := List.mem_range.1 hj
  have := h j hj
  unfold runOk at *
  rwa [runAt_mir (show j + 1 ≤ xs.length by omega)]
theorem kindsAt_mir {m : Mk} {xs : List Int} : ∀ {j : Nat}, j ≤ xs.length → kindsAt (mirL m xs) j = kindsAt xs j
  | 0, _ => rfl
  | j + 1, h => by
    unfold kindsAt
    rw [getD_mir (show j < xs.length by omega), kindsAt_mir (show j ≤ xs.length by omega)]
    have e : ((mirL m xs).take j).any (fun v => decide (v = m.D - 1 - xs.getD j 0)) = (xs.take j).any (fun v => decide (v = xs.getD j 0)) := by
      unfold mirL
      rw [← List.map_take, List.any_map]
      congr 1
      funext v
      simp only [Function.comp]
      exact decide_eq_decide.2 (by constructor <;> omega)
    rw [e]
theorem kinds_mir {m : Mk} {xs : List Int} : kinds (mirL m xs) = kinds xs := by
  unfold kinds
  rw [mirL_len]
  exact kindsAt_mir (Nat.le_refl _)
theorem mir_key {m : Mk} {xs : List Int} (h : isKeyB m xs = true) : isKeyB m (mirL m xs) = true := by
  obtain ⟨hm, h1, h2, h3, h4, h5⟩ := key_facts h
  refine isKey_of hm (by rw [mirL_len]; exact h1) ?_ (steps_mir h3) (runs_mir h4) (by rw [kinds_mir]; exact h5)
  unfold allIn at *
  rw [List.all_eq_true] at *
  intro v hv
  unfold mirL at hv
  obtain ⟨u, hu, rfl⟩ := List.mem_map.1 hv
  have := inB_true.1 (h2 u hu)
  exact inB_true.2 (by omega)

theorem steps_rev {S : Int} {xs : List Int} (h : stepsB S xs = true) : stepsB S xs.reverse = true := by
  unfold stepsB at *
  rw [List.length_reverse, List.all_eq_true] at *
  intro j hj
  have hj' := List.mem_range.1 hj
  unfold stepAt
  by_cases h0 : j = 0
  · rw [decide_eq_true h0]; rfl
  · have := h (xs.length - j) (List.mem_range.2 (by omega))
    unfold stepAt at this
    rw [decide_eq_false (show ¬ xs.length - j = 0 by omega), Bool.false_or] at this
    rw [decide_eq_false h0, Bool.false_or, getD_rev hj', getD_rev (show j - 1 < xs.length by omega)]
    rw [show xs.length - 1 - j = xs.length - j - 1 by omega, show xs.length - 1 - (j - 1) = xs.length - j by omega]
    rw [show xs.getD (xs.length - j - 1) 0 - xs.getD (xs.length - j) 0 = -(xs.getD (xs.length - j) 0 - xs.getD (xs.length - j - 1) 0) by omega, inB_neg]
    exact this
theorem run_ge {xs : List Int} : ∀ (r j : Nat), r + 1 ≤ runAt xs (j + 1) ↔ (r ≤ j ∧ ∀ i, i < r → xs.getD (j - i) 0 = xs.getD (j - i - 1) 0)
  | 0, j => by
    constructor
    · intro _; exact ⟨Nat.zero_le _, fun i hi => absurd hi (by omega)⟩
    · intro _
      unfold runAt
      split <;> omega
  | r + 1, 0 => by
    constructor
    · intro h
      have : runAt xs (0 + 1) = 1 := by unfold runAt; rw [if_neg (fun h => absurd h.1 (Nat.lt_irrefl 0))]; rfl
      omega
    · rintro ⟨h, _⟩; omega
  | r + 1, j + 1 => by
    have ih := run_ge (xs := xs) r j
    by_cases he : xs.getD (j + 1) 0 = xs.getD j 0
    · have e : runAt xs (j + 1 + 1) = runAt xs (j + 1) + 1 := by
        show (if _ then _ else _) = _
        rw [if_neg]
        intro h; exact h.2 he
      rw [e]
      constructor
      · intro h
        obtain ⟨h1, h2⟩ := ih.1 (by omega)
        refine ⟨by omega, fun i hi => ?_⟩
        rcases i with _ | i
        · exact he
        · have := h2 i (by omega)
          rw [show j + 1 - (i + 1) = j - i by omega]
          exact this
      · rintro ⟨h1, h2⟩
        have := ih.2 ⟨by omega, fun i hi => by
          have := h2 (i + 1) (by omega)
          rwa [show j + 1 - (i + 1) = j - i by omega] at this⟩
        omega
    · have e : runAt xs (j + 1 + 1) = 1 := by
        show (if _ then _ else _) = _
        rw [if_pos]
        exact ⟨by omega, he⟩
      rw [e]
      constructor
      · intro h; omega
      · rintro ⟨h1, h2⟩
        exact absurd (h2 0 (by omega)) he
theorem runs_rev {M : Int} {xs : List Int} (hM : 0 ≤ M) (h : runsB M xs = true) : runsB M xs.reverse = true := by
  unfold runsB at *
  rw [List.length_reverse, List.all_eq_true] at *
  intro j hj
  have hj' := List.mem_range.1 hj
  unfold runOk
  rw [decide_eq_true_eq]
  by_cases hlt : M < (runAt xs.reverse (j + 1) : Int)
  · exfalso
    obtain ⟨r, hr⟩ : ∃ r : Nat, (r : Int) = M := ⟨M.toNat, by omega⟩
    obtain ⟨h1, h2⟩ := (run_ge (xs := xs.reverse) r j).1 (by omega)
    have h3 : r + 1 ≤ runAt xs (xs.length - 1 - j + r + 1) := (run_ge r _).2 ⟨by omega, fun i hi => by
      have h4 := h2 (r - 1 - i) (by omega)
      rw [getD_rev (show j - (r - 1 - i) < xs.length by omega), getD_rev (show j - (r - 1 - i) - 1 < xs.length by omega)] at h4
      rw [show xs.length - 1 - j + r - i = xs.length - 1 - (j - (r - 1 - i) - 1) by omega, show xs.length - 1 - (j - (r - 1 - i) - 1) - 1 = xs.length - 1 - (j - (r - 1 - i)) by omega]
      exact h4.symm⟩
    have h5 := h (xs.length - 1 - j + r) (List.mem_range.2 (by omega))
    unfold runOk at h5
    rw [decide_eq_true_eq] at h5
    omega
  · omega
theorem kinds_rev {xs : List Int} (h : allIn 0 7 xs = true) : kinds xs.reverse = kinds xs := by
  have h' : allIn 0 7 xs.reverse = true := by unfold allIn at *; rw [List.all_reverse]; exact h
  rw [← pc_mask xs h, ← pc_mask xs.reverse h']
  congr 1
  have hp : ∀ v ∈ xs, 0 ≤ v := fun v hv => (inB_true.1 (List.all_eq_true.1 h v hv)).1
  refine Nat.eq_of_testBit_eq (fun j => ?_)
  rw [mask_bit j hp, mask_bit j (fun v hv => hp v (List.mem_reverse.1 hv)), List.any_reverse]
theorem rev_key {m : Mk} {xs : List Int} (h : isKeyB m xs = true) : isKeyB m xs.reverse = true := by
  have h7 := key_seven h
  obtain ⟨hm, h1, h2, h3, h4, h5⟩ := key_facts h
  obtain ⟨_, _, _, _, _, _, m7, _⟩ := Mk.ok_true hm
  refine isKey_of hm (by rw [List.length_reverse]; exact h1) ?_ (steps_rev h3) (runs_rev (by omega) h4) (by rw [kinds_rev h7]; exact h5)
  unfold allIn at *
  rw [List.all_reverse]; exact h2

theorem kindsAt_up' (xs : List Int) {a b : Nat} (h : a ≤ b) : kindsAt xs a ≤ kindsAt xs b := by
  induction b with
  | zero => obtain rfl : a = 0 := by omega
            exact Nat.le_refl _
  | succ b ih =>
    rcases Nat.lt_or_ge a (b + 1) with h1 | h1
    · have := ih (by omega)
      show _ ≤ kindsAt xs b + _
      omega
    · obtain rfl : a = b + 1 := by omega
      exact Nat.le_refl _
theorem kinds_one {xs : List Int} {c : Int} (h : ∀ j, j < xs.length → xs.getD j 0 = c) : ∀ k, k ≤ xs.length → kindsAt xs k ≤ 1
  | 0, _ => by simp [kindsAt]
  | 1, _ => by simp [kindsAt]
  | k + 2, hk => by
    have ih := kinds_one h (k + 1) (by omega)
    have e : kindsAt xs (k + 2) = kindsAt xs (k + 1) := by
      have hany : (xs.take (k + 1)).any (fun v => decide (v = xs.getD (k + 1) 0)) = true := by
        rw [List.any_eq_true]
        have h0 : xs[0]? = some xs[0] := List.getElem?_eq_getElem (by omega)
        refine ⟨xs[0], List.mem_of_getElem? (i := 0) (by rw [List.getElem?_take_of_lt (by omega)]; exact h0), ?_⟩
        rw [decide_eq_true_eq, ← getD_at h0, h 0 (by omega), h (k + 1) (by omega)]
      show kindsAt xs (k + 1) + (if _ then _ else _) = _
      rw [if_pos hany]; rfl
    omega
theorem other_key {m : Mk} {xs : List Int} (h : isKeyB m xs = true) : ∃ y, y ∈ allKeys m ∧ y ≠ xs := by
  have hin : ∀ {y}, isKeyB m y = true → y ∈ allKeys m := fun hy => by
    obtain ⟨A, e⟩ := all_at hy
    rw [e]; simp
  by_cases hmir : mirL m xs = xs
  · obtain ⟨hm, h1, h2, h3, h4, h5⟩ := key_facts h
    obtain ⟨m1, m2, m3, m4, m5, m6, m7, m8, m9, m10, m11⟩ := Mk.ok_true hm
    have hc : ∀ j, j < xs.length → 2 * xs.getD j 0 = m.D - 1 := fun j hj => by
      have e := getD_mir (m := m) hj
      rw [hmir] at e; omega
    have hc2 : ∀ j, j < xs.length → xs.getD j 0 = xs.getD 0 0 := fun j hj => by
      have := hc j hj; have := hc 0 (by omega); omega
    have hrun : xs.length ≤ runAt xs (xs.length - 1 + 1) := by
      have := (run_ge (xs := xs) (xs.length - 1) (xs.length - 1)).2 ⟨Nat.le_refl _, fun i hi => by rw [hc2 _ (by omega), hc2 (xs.length - 1 - i - 1) (by omega)]⟩
      omega
    have hM : (xs.length : Int) ≤ m.M := by
      unfold runsB at h4
      have := all_range_at h4 (show xs.length - 1 < xs.length by omega)
      unfold runOk at this
      rw [decide_eq_true_eq] at this
      omega
    have hL : m.L ≤ 1 := by
      have := kinds_one hc2 xs.length (Nat.le_refl _)
      unfold kinds at h5
      omega
    have hz : ∀ j, (List.replicate xs.length (0 : Int)).getD j 0 = 0 := fun j => by
      rw [List.getD_eq_getElem?_getD, List.getElem?_replicate]
      split <;> rfl
    refine ⟨List.replicate xs.length 0, hin (isKey_of hm (by simpa using h1) ?_ ?_ ?_ ?_), ?_⟩
    · unfold allIn
      rw [List.all_eq_true]
      intro v hv
      obtain ⟨_, rfl⟩ := List.mem_replicate.1 hv
      exact inB_true.2 (by omega)
    · unfold stepsB
      rw [List.all_eq_true]
      intro j _
      unfold stepAt
      rw [hz, hz, show inB (0 - 0) (-m.S) m.S = true from inB_true.2 (by omega), Bool.or_true]
    · unfold runsB
      rw [List.all_eq_true]
      intro j hj
      have hj' := List.mem_range.1 hj
      rw [List.length_replicate] at hj'
      unfold runOk
      rw [decide_eq_true_eq]
      have := runAt_le (List.replicate xs.length (0 : Int)) (j + 1)
      omega
    · have e1 : kindsAt (List.replicate xs.length (0 : Int)) 1 = 1 := by simp [kindsAt]
      have := kindsAt_up' (List.replicate xs.length (0 : Int)) (show 1 ≤ (List.replicate xs.length (0 : Int)).length by rw [List.length_replicate]; omega)
      unfold kinds
      omega
    · intro e
      have e2 := hz 0
      rw [e] at e2
      have := hc 0 (by omega)
      omega
  · exact ⟨mirL m xs, hin (mir_key h), hmir⟩

end Go.Proofs.Ytpbimekfhdgdoaa
