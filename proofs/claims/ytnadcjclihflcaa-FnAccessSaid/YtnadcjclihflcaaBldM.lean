/- Buildings as plain lists: which are valid, the ancestors of a node, what is under a node, common groups. No program text. -/
import Derived.Test.YtnadcjclihflcaaOwn
namespace Go.Proofs.Ytnadcjclihflcaa

/-- the parent of a node, and whether it is a door -/
def par (P : List Int) (i : Nat) : Int := P.getD i 0
def dor (D : List Bool) (i : Nat) : Bool := D.getD i false
/-- a node stands behind its parent, which is no door -/
def nodeB (P : List Int) (D : List Bool) (i : Nat) : Bool := inB (par P i) 0 ((i : Int) - 1) && !dor D (par P i).toNat
def nodesTo (P : List Int) (D : List Bool) (k : Nat) : Bool := (List.range k).all fun i => i == 0 || nodeB P D i
/-- there is a door -/
def anyD (D : List Bool) : Bool := D.any id
/-- the building is valid -/
def bldB (P : List Int) (D : List Bool) : Bool := inB P.length 2 24 && (D.length == P.length) && (par P 0 == -1) && !dor D 0 && nodesTo P D P.length && anyD D

theorem nodesTo_succ (P : List Int) (D : List Bool) (k : Nat) : nodesTo P D (k + 1) = (nodesTo P D k && (k == 0 || nodeB P D k)) := by
  unfold nodesTo; rw [List.range_succ, List.all_append]; simp
theorem nodesTo_at {P : List Int} {D : List Bool} {k : Nat} (h : nodesTo P D k = true) {i : Nat} (h1 : 1 ≤ i) (hi : i < k) : nodeB P D i = true := by
  unfold nodesTo at h
  rw [List.all_eq_true] at h
  have := h i (List.mem_range.2 hi)
  have h0 : (i == 0) = false := by simp; omega
  rw [h0] at this
  simpa using this
theorem nodesTo_no {P : List Int} {D : List Bool} {k i : Nat} (h1 : 1 ≤ i) (hi : i < k) (h : nodeB P D i = false) : nodesTo P D k = false := by
  rcases hq : nodesTo P D k with _ | _
  · rfl
  · rw [nodesTo_at hq h1 hi] at h; cases h
theorem bldB_no {P : List Int} {D : List Bool} {i : Nat} (h1 : 1 ≤ i) (hi : i < P.length) (h : nodeB P D i = false) : bldB P D = false := by
  unfold bldB; rw [nodesTo_no h1 hi h]; simp

/-- each node but the root stands behind its parent -/
structure Tree (P : List Int) : Prop where
  root : par P 0 = -1
  up : ∀ i, 1 ≤ i → i < P.length → 0 ≤ par P i ∧ par P i < i
theorem bld_tree {P : List Int} {D : List Bool} (h : bldB P D = true) : Tree P ∧ 2 ≤ P.length ∧ P.length ≤ 24 ∧ D.length = P.length ∧ dor D 0 = false ∧ nodesTo P D P.length = true := by
  unfold bldB at h
  simp only [Bool.and_eq_true] at h
  obtain ⟨⟨⟨⟨⟨h1, h2⟩, h3⟩, h4⟩, h5⟩, _⟩ := h
  rw [inB_true] at h1
  refine ⟨⟨by simpa using h3, fun i hi1 hi => ?_⟩, by omega, by omega, by simpa using h2, by simpa using h4, h5⟩
  have := nodesTo_at h5 hi1 hi
  unfold nodeB at this
  rw [Bool.and_eq_true, inB_true] at this
  omega
theorem Tree.root_only {P : List Int} (h : Tree P) {i : Nat} (hi : i < P.length) : par P i < 0 ↔ i = 0 := by
  rcases Nat.eq_zero_or_pos i with rfl | h0
  · simp [h.root]
  · have := h.up i h0 hi
    omega

/-- the nodes that a node is under, from itself to the root -/
def ancF (P : List Int) : Nat → Nat → List Nat
  | 0, _ => []
  | f + 1, i => i :: (if par P i < 0 then [] else ancF P f (par P i).toNat)
def ancN (P : List Int) (i : Nat) : List Nat := ancF P (i + 1) i
theorem anc_fuel {P : List Int} (h : Tree P) : ∀ (f i : Nat), i < P.length → i < f → ancF P f i = ancN P i := by
  intro f
  induction f using Nat.strongRecOn with
  | _ f ih =>
    intro i hi hf
    rcases f with _ | f
    · omega
    · unfold ancN
      simp only [ancF]
      by_cases h0 : par P i < 0
      · rw [if_pos h0, if_pos h0]
      · rw [if_neg h0, if_neg h0]
        have h1 : 1 ≤ i := by
          rcases Nat.eq_zero_or_pos i with rfl | hp
          · exact absurd (by rw [h.root]; decide) h0
          · exact hp
        have hu := h.up i h1 hi
        have hl : (par P i).toNat < i := by omega
        rw [ih f (by omega) _ (by omega) (by omega)]
        by_cases he : i = f
        · subst he
          rw [ih i (by omega) _ (by omega) hl]
        · rw [ih i (by omega) _ (by omega) hl]
theorem anc_root {P : List Int} (h : Tree P) : ancN P 0 = [0] := by
  unfold ancN; simp [ancF, h.root]
theorem anc_up {P : List Int} (h : Tree P) {i : Nat} (h1 : 1 ≤ i) (hi : i < P.length) : ancN P i = i :: ancN P (par P i).toNat := by
  have hu := h.up i h1 hi
  unfold ancN
  rw [ancF, if_neg (by omega), anc_fuel h i _ (by omega) (by omega)]
  rfl
theorem anc_self (P : List Int) (i : Nat) : i ∈ ancN P i := by unfold ancN; simp [ancF]
theorem anc_le {P : List Int} (h : Tree P) : ∀ (i : Nat), i < P.length → ∀ g, g ∈ ancN P i → g ≤ i := by
  intro i
  induction i using Nat.strongRecOn with
  | _ i ih =>
    intro hi g hg
    rcases Nat.eq_zero_or_pos i with rfl | h0
    · rw [anc_root h] at hg; simp at hg; omega
    · rw [anc_up h h0 hi, List.mem_cons] at hg
      have hu := h.up i h0 hi
      rcases hg with rfl | hg
      · exact Nat.le_refl _
      · have := ih (par P i).toNat (by omega) (by omega) g hg
        omega
theorem anc_zero {P : List Int} (h : Tree P) : ∀ (i : Nat), i < P.length → 0 ∈ ancN P i := by
  intro i
  induction i using Nat.strongRecOn with
  | _ i ih =>
    intro hi
    rcases Nat.eq_zero_or_pos i with rfl | h0
    · rw [anc_root h]; simp
    · rw [anc_up h h0 hi, List.mem_cons]
      have hu := h.up i h0 hi
      exact .inr (ih _ (by omega) (by omega))
theorem anc_trans {P : List Int} (h : Tree P) {x c : Nat} (hx : x ∈ ancN P c) : ∀ (i : Nat), i < P.length → c ∈ ancN P i → x ∈ ancN P i := by
  intro i
  induction i using Nat.strongRecOn with
  | _ i ih =>
    intro hi hc
    rcases Nat.eq_zero_or_pos i with rfl | h0
    · rw [anc_root h] at hc; simp at hc; subst hc; exact hx
    · rw [anc_up h h0 hi, List.mem_cons] at hc
      have hu := h.up i h0 hi
      rcases hc with rfl | hc
      · exact hx
      · rw [anc_up h h0 hi, List.mem_cons]
        exact .inr (ih _ (by omega) (by omega) hc)

/-- node i is under node g -/
def und (P : List Int) (g i : Nat) : Bool := decide (g ∈ ancN P i)
theorem und_self (P : List Int) (i : Nat) : und P i i = true := by simp [und, anc_self]
theorem und_up {P : List Int} (h : Tree P) {i : Nat} (h1 : 1 ≤ i) (hi : i < P.length) (g : Nat) : und P g i = (g == i || und P g (par P i).toNat) := by
  unfold und
  rw [anc_up h h1 hi]
  by_cases e : g = i <;> simp [e]
theorem und_root {P : List Int} (h : Tree P) (g : Nat) : und P g 0 = (g == 0) := by
  unfold und; rw [anc_root h]; by_cases e : g = 0 <;> simp [e]
/-- a child of x among the first k nodes that i is under -/
def viaTo (P : List Int) (x i k : Nat) : Bool := (List.range k).any fun c => par P c == (x : Int) && und P c i
theorem viaTo_succ (P : List Int) (x i k : Nat) : viaTo P x i (k + 1) = (viaTo P x i k || (par P k == (x : Int) && und P k i)) := by
  unfold viaTo; rw [List.range_succ, List.any_append]; simp
theorem und_via {P : List Int} (h : Tree P) (x : Nat) : ∀ (i : Nat), i < P.length → und P x i = (i == x || viaTo P x i P.length) := by
  intro i
  induction i using Nat.strongRecOn with
  | _ i ih =>
    intro hi
    have one : viaTo P x i P.length = true → und P x i = true := by
      unfold viaTo
      rw [List.any_eq_true]
      rintro ⟨c, hc, hq⟩
      rw [List.mem_range] at hc
      rw [Bool.and_eq_true, beq_iff_eq] at hq
      have hc1 : 1 ≤ c := by
        rcases Nat.eq_zero_or_pos c with rfl | hp
        · rw [h.root] at hq; omega
        · exact hp
      have hxc : x ∈ ancN P c := by
        rw [anc_up h hc1 hc, hq.1]
        simp [anc_self]
      have hci : c ∈ ancN P i := by simpa [und] using hq.2
      simpa [und] using anc_trans h hxc i hi hci
    rcases hv : viaTo P x i P.length with _ | _
    · rw [Bool.or_false]
      rcases Nat.eq_zero_or_pos i with rfl | h0
      · rw [und_root h]
        by_cases e : x = 0
        · subst e; simp
        · have : (x == 0) = false := by simpa using e
          rw [this]; symm; simp; omega
      · have hu := h.up i h0 hi
        rw [und_up h h0 hi, ih _ (by omega) (by omega)]
        have nv : ∀ c, c < P.length → par P c = (x : Int) → ¬ c ∈ ancN P i := by
          intro c hc e hm
          have : viaTo P x i P.length = true := by
            unfold viaTo
            rw [List.any_eq_true]
            exact ⟨c, List.mem_range.2 hc, by simp [e, und, hm]⟩
          rw [hv] at this; cases this
        have h1 : ((par P i).toNat == x) = false := by
          rcases hq : ((par P i).toNat == x) with _ | _
          · rfl
          · have e : (par P i).toNat = x := by simpa using hq
            exact absurd (anc_self P i) (nv i hi (by omega))
        have h2 : viaTo P x (par P i).toNat P.length = false := by
          rcases hq : viaTo P x (par P i).toNat P.length with _ | _
          · rfl
          · unfold viaTo at hq
            rw [List.any_eq_true] at hq
            obtain ⟨c, hc, hq⟩ := hq
            rw [List.mem_range] at hc
            rw [Bool.and_eq_true, beq_iff_eq] at hq
            have hm : c ∈ ancN P (par P i).toNat := by simpa [und] using hq.2
            refine absurd ?_ (nv c hc hq.1)
            rw [anc_up h h0 hi]
            exact List.mem_cons_of_mem _ hm
        rw [h1, h2]
        by_cases e : x = i
        · subst e; simp
        · have a : (x == i) = false := by simpa using e
          have b : (i == x) = false := by simpa using (Ne.symm e)
          rw [a, b]; rfl
    · rw [one hv]; simp
theorem und_le {P : List Int} (h : Tree P) {g i : Nat} (hi : i < P.length) (hu : und P g i = true) : g ≤ i := anc_le h i hi g (by simpa [und] using hu)

/-- how deep a node lies -/
def depN (P : List Int) (i : Nat) : Nat := (ancN P i).length
theorem dep_root {P : List Int} (h : Tree P) : depN P 0 = 1 := by simp [depN, anc_root h]
theorem dep_up {P : List Int} (h : Tree P) {i : Nat} (h1 : 1 ≤ i) (hi : i < P.length) : depN P i = depN P (par P i).toNat + 1 := by
  simp [depN, anc_up h h1 hi]
theorem dep_le {P : List Int} (h : Tree P) : ∀ (i : Nat), i < P.length → 1 ≤ depN P i ∧ depN P i ≤ i + 1 := by
  intro i
  induction i using Nat.strongRecOn with
  | _ i ih =>
    intro hi
    rcases Nat.eq_zero_or_pos i with rfl | h0
    · simp [dep_root h]
    · have hu := h.up i h0 hi
      have := ih (par P i).toNat (by omega) (by omega)
      rw [dep_up h h0 hi]; omega
/-- the greatest depth of the first k nodes that have been met -/
def maxTo (f : Nat → Nat) (p : Nat → Bool) : Nat → Nat
  | 0 => 0
  | k + 1 => if p k then max (maxTo f p k) (f k) else maxTo f p k
theorem maxTo_add {f : Nat → Nat} {p : Nat → Bool} {x : Nat} : ∀ {k : Nat}, x < k → maxTo f (fun i => p i || i == x) k = max (maxTo f p k) (f x) := by
  have same : ∀ (k : Nat), k ≤ x → maxTo f (fun i => p i || i == x) k = maxTo f p k := by
    intro k
    induction k with
    | zero => intro _; rfl
    | succ k ih =>
      intro hk
      have e : (k == x) = false := by simp; omega
      simp only [maxTo, e, Bool.or_false, ih (by omega)]
  intro k
  induction k with
  | zero => intro h; omega
  | succ k ih =>
    intro hk
    by_cases e : k = x
    · subst e
      simp only [maxTo, same k (Nat.le_refl _), beq_self_eq_true, Bool.or_true, if_true]
      split <;> omega
    · have e' : (k == x) = false := by simpa using e
      simp only [maxTo, e', Bool.or_false, ih (by omega)]
      split <;> omega
theorem maxTo_none {f : Nat → Nat} : ∀ (k : Nat), maxTo f (fun _ => false) k = 0 := by
  intro k; induction k with
  | zero => rfl
  | succ k ih => simp [maxTo, ih]
theorem maxTo_congr {f : Nat → Nat} {p q : Nat → Bool} : ∀ (k : Nat), (∀ i, i < k → p i = q i) → maxTo f p k = maxTo f q k := by
  intro k; induction k with
  | zero => intro _; rfl
  | succ k ih =>
    intro h
    simp only [maxTo]
    rw [h k (by omega), ih (fun i hi => h i (by omega))]
theorem maxTo_le {f : Nat → Nat} {p : Nat → Bool} {b : Nat} : ∀ (k : Nat), (∀ i, i < k → f i ≤ b) → maxTo f p k ≤ b := by
  intro k; induction k with
  | zero => intro _; exact Nat.zero_le _
  | succ k ih =>
    intro h
    have h1 := ih (fun i hi => h i (by omega))
    have h2 := h k (by omega)
    simp only [maxTo]
    split <;> omega
theorem maxTo_ge {f : Nat → Nat} : ∀ (k i : Nat), i < k → f i ≤ maxTo f (fun _ => true) k := by
  intro k; induction k with
  | zero => intro i hi; omega
  | succ k ih =>
    intro i hi
    simp only [maxTo, if_true]
    by_cases e : i = k
    · subst e; omega
    · have := ih i (by omega); omega
/-- the height of a building -/
def higN (P : List Int) : Nat := maxTo (depN P) (fun _ => true) P.length
theorem und_zero {P : List Int} (h : Tree P) {i : Nat} (hi : i < P.length) : und P 0 i = true := by simpa [und] using anc_zero h i hi

/-- the greatest number below k of which p is true, and 0 if there is none -/
def lastN (p : Nat → Bool) : Nat → Nat
  | 0 => 0
  | k + 1 => if p k then k else lastN p k
theorem lastN_is {p : Nat → Bool} {g : Nat} (hg : p g = true) : ∀ (k : Nat), g < k → (∀ i, i < k → p i = true → i ≤ g) → lastN p k = g := by
  intro k
  induction k with
  | zero => intro h; omega
  | succ k ih =>
    intro hk hm
    unfold lastN
    by_cases e : k = g
    · subst e; rw [if_pos hg]
    · have : p k = false := by
        rcases hq : p k with _ | _
        · rfl
        · have := hm k (by omega) hq; omega
      rw [this]
      simp only [Bool.false_eq_true, if_false]
      exact ih (by omega) (fun i hi hp => hm i (by omega) hp)
theorem lastN_congr {p q : Nat → Bool} : ∀ (k : Nat), (∀ i, i < k → p i = q i) → lastN p k = lastN q k := by
  intro k; induction k with
  | zero => intro _; rfl
  | succ k ih => intro h; simp only [lastN]; rw [h k (by omega), ih (fun i hi => h i (by omega))]
theorem lastN_lt {p : Nat → Bool} : ∀ (k : Nat), 0 < k → lastN p k < k := by
  intro k; induction k with
  | zero => intro h; omega
  | succ k ih =>
    intro _
    simp only [lastN]
    split
    · omega
    · rcases k with _ | k
      · simp [lastN]
      · have := ih (by omega); omega
/-- all of some nodes are under g -/
def allU (P : List Int) (xs : List Int) (g : Nat) : Bool := xs.all fun x => und P g x.toNat
def comN (P : List Int) (xs : List Int) : Nat := lastN (allU P xs) P.length
theorem allU_mem {P : List Int} {xs : List Int} {g : Nat} (h : allU P xs g = true) {x : Int} (hx : x ∈ xs) : g ∈ ancN P x.toNat := by
  unfold allU at h
  rw [List.all_eq_true] at h
  simpa [und] using h x hx
theorem com_here {P : List Int} (h : Tree P) {xs : List Int} {g : Nat} (hg : g < P.length) (ha : allU P xs g = true) (hm : ∀ i, allU P xs i = true → i ∈ ancN P g) : comN P xs = g :=
  lastN_is ha _ hg (fun i _ hp => anc_le h g hg i (hm i hp))
theorem com_next {P : List Int} (h : Tree P) {xs : List Int} (hr : ∀ x ∈ xs, x.toNat < P.length) {g : Nat} (hg : g < P.length) (ha : allU P xs g = false) (hm : ∀ i, allU P xs i = true → i ∈ ancN P g) : 1 ≤ g ∧ (par P g).toNat < g ∧ 0 ≤ par P g ∧ ∀ i, allU P xs i = true → i ∈ ancN P (par P g).toNat := by
  have h1 : 1 ≤ g := by
    rcases Nat.eq_zero_or_pos g with rfl | hp
    · have : allU P xs 0 = true := by
        unfold allU
        rw [List.all_eq_true]
        intro x hx
        exact und_zero h (hr x hx)
      rw [this] at ha; cases ha
    · exact hp
  have hu := h.up g h1 hg
  refine ⟨h1, by omega, hu.1, fun i hi => ?_⟩
  have := hm i hi
  rw [anc_up h h1 hg, List.mem_cons] at this
  rcases this with rfl | h2
  · rw [hi] at ha; cases ha
  · exact h2
theorem com_lt {P : List Int} (h : 0 < P.length) (xs : List Int) : comN P xs < P.length := lastN_lt _ h
theorem com_all {P : List Int} (h : Tree P) (h0 : 0 < P.length) {xs : List Int} (hr : ∀ x ∈ xs, x.toNat < P.length) : allU P xs (comN P xs) = true := by
  have key : ∀ k, 0 < k → k ≤ P.length → allU P xs (lastN (allU P xs) k) = true := by
    intro k
    induction k with
    | zero => intro h; omega
    | succ k ih =>
      intro _ hk
      simp only [lastN]
      split
      · assumption
      · rcases k with _ | k
        · simp only [lastN]
          unfold allU
          rw [List.all_eq_true]
          intro x hx
          exact und_zero h (hr x hx)
        · exact ih (by omega) (by omega)
  exact key _ h0 (Nat.le_refl _)

/-- the doors under a node among the first k nodes -/
def doorsTo (P : List Int) (D : List Bool) (x k : Nat) : List Int := ((List.range k).filter fun i => dor D i && und P x i).map fun (i : Nat) => (i : Int)
theorem doorsTo_yes {P : List Int} {D : List Bool} {x k : Nat} (h : (dor D k && und P x k) = true) : doorsTo P D x (k + 1) = doorsTo P D x k ++ [(k : Int)] := by
  unfold doorsTo; rw [List.range_succ, List.filter_append]; simp [h]
theorem doorsTo_no {P : List Int} {D : List Bool} {x k : Nat} (h : (dor D k && und P x k) = false) : doorsTo P D x (k + 1) = doorsTo P D x k := by
  unfold doorsTo; rw [List.range_succ, List.filter_append]; simp [h]
theorem doorsTo_len (P : List Int) (D : List Bool) (x k : Nat) : (doorsTo P D x k).length ≤ k := by
  unfold doorsTo; rw [List.length_map]; exact Nat.le_trans (List.length_filter_le _ _) (by simp)
theorem doorsTo_mem {P : List Int} {D : List Bool} {x k : Nat} {v : Int} : v ∈ doorsTo P D x k ↔ ∃ i : Nat, i < k ∧ v = i ∧ dor D i = true ∧ und P x i = true := by
  unfold doorsTo
  rw [List.mem_map]
  constructor
  · rintro ⟨i, hi, rfl⟩
    rw [List.mem_filter, List.mem_range, Bool.and_eq_true] at hi
    exact ⟨i, hi.1, rfl, hi.2.1, hi.2.2⟩
  · rintro ⟨i, hi, rfl, h1, h2⟩
    exact ⟨i, by rw [List.mem_filter, List.mem_range, Bool.and_eq_true]; exact ⟨hi, h1, h2⟩, rfl⟩
/-- the doors of a set among the first k nodes -/
def amD (D : List Bool) (p : Nat → Bool) (k : Nat) : List Int := ((List.range k).filter fun i => dor D i && p i).map fun (i : Nat) => (i : Int)
theorem doorsTo_am (P : List Int) (D : List Bool) (x k : Nat) : doorsTo P D x k = amD D (und P x) k := rfl
theorem amD_yes {D : List Bool} {p : Nat → Bool} {k : Nat} (h : (dor D k && p k) = true) : amD D p (k + 1) = amD D p k ++ [(k : Int)] := by
  unfold amD; rw [List.range_succ, List.filter_append]; simp [h]
theorem amD_no {D : List Bool} {p : Nat → Bool} {k : Nat} (h : (dor D k && p k) = false) : amD D p (k + 1) = amD D p k := by
  unfold amD; rw [List.range_succ, List.filter_append]; simp [h]
theorem amD_len (D : List Bool) (p : Nat → Bool) (k : Nat) : (amD D p k).length ≤ k := by
  unfold amD; rw [List.length_map]; exact Nat.le_trans (List.length_filter_le _ _) (by simp)
theorem amD_congr {D : List Bool} {p q : Nat → Bool} {k : Nat} (h : ∀ i, i < k → p i = q i) : amD D p k = amD D q k := by
  unfold amD
  congr 1
  refine List.filter_congr fun i hi => ?_
  rw [h i (List.mem_range.1 hi)]
theorem amD_mem {D : List Bool} {p : Nat → Bool} {k : Nat} {v : Int} : v ∈ amD D p k ↔ ∃ i : Nat, i < k ∧ v = i ∧ dor D i = true ∧ p i = true := by
  unfold amD
  rw [List.mem_map]
  constructor
  · rintro ⟨i, hi, rfl⟩
    rw [List.mem_filter, List.mem_range, Bool.and_eq_true] at hi
    exact ⟨i, hi.1, rfl, hi.2.1, hi.2.2⟩
  · rintro ⟨i, hi, rfl, h1, h2⟩
    exact ⟨i, by rw [List.mem_filter, List.mem_range, Bool.and_eq_true]; exact ⟨hi, h1, h2⟩, rfl⟩
/-- answers and codes -/
def ancI (P : List Int) (i : Nat) : List Int := (ancN P i).map fun (j : Nat) => (j : Int)
def nodE (P : List Int) (D : List Bool) (x : Int) : Int := if bldB P D then (if inB x 0 ((P.length : Int) - 1) then 0 else 2) else 1
def duL (P : List Int) (D : List Bool) (x : Int) : List Int := if nodE P D x = 0 then doorsTo P D x.toNat P.length else []
def anL (P : List Int) (D : List Bool) (x : Int) : List Int := if nodE P D x = 0 then ancI P x.toNat else []
def bdE (P : List Int) (D : List Bool) : Int := if bldB P D then 0 else 1
def hgV (P : List Int) (D : List Bool) : Int := if bldB P D then (higN P : Int) else 0
def nodesB (P : List Int) (xs : List Int) : Bool := xs.all fun x => inB x 0 ((P.length : Int) - 1)
def cgE (P : List Int) (D : List Bool) (xs : List Int) : Int := if bldB P D then (if nodesB P xs then (if inB xs.length 1 24 then 0 else 2) else 2) else 1
def cgV (P : List Int) (D : List Bool) (xs : List Int) : Int := if cgE P D xs = 0 then (comN P xs : Int) else 0

end Go.Proofs.Ytnadcjclihflcaa
