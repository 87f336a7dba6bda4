/- Plans as plain lists: which are valid, what a key may enter, short and least rights. No program text. -/
import Derived.Test.YtnadcjclihflcaaBldM
import Derived.Test.YtnadcjclihflcaaOpMath
namespace Go.Proofs.Ytnadcjclihflcaa

/-- rights: at least one node, strictly rising -/
def rigB (n : Nat) (xs : List Int) : Bool := !xs.isEmpty && riseB n xs
def planB (P : List Int) (D : List Bool) (R : List (List Int)) : Bool := bldB P D && (inB R.length 1 10 && R.all (rigB P.length))
theorem planB_true {P : List Int} {D : List Bool} {R : List (List Int)} (h : planB P D R = true) : bldB P D = true ∧ 1 ≤ R.length ∧ R.length ≤ 10 ∧ R.all (rigB P.length) = true := by
  unfold planB at h
  rw [Bool.and_eq_true, Bool.and_eq_true, inB_true] at h
  exact ⟨h.1, by omega, by omega, h.2.2⟩
theorem rig_range {n : Nat} {xs : List Int} (h : rigB n xs = true) : ∀ x ∈ xs, 0 ≤ x ∧ x < n := by
  intro x hx
  obtain ⟨k, hk, e⟩ := List.getElem_of_mem hx
  unfold rigB riseB at h
  rw [Bool.and_eq_true] at h
  have := List.all_eq_true.1 h.2 k (by simpa using hk)
  unfold stepB at this
  rw [getD_of (List.getElem?_eq_getElem hk), e] at this
  simp at this
  omega
theorem rig_at {n : Nat} {R : List (List Int)} (h : R.all (rigB n) = true) {k : Nat} (hk : k < R.length) : rigB n (R.getD k []) = true := by
  rw [List.getD_eq_getElem?_getD, List.getElem?_eq_getElem hk]
  exact List.all_eq_true.1 h _ (List.getElem_mem hk)
theorem rig_step {n : Nat} {xs : List Int} (h : rigB n xs = true) {k : Nat} (hk : k < xs.length) (h0 : 0 < k) : xs.getD (k - 1) 0 < xs.getD k 0 := by
  unfold rigB riseB at h
  rw [Bool.and_eq_true] at h
  have := List.all_eq_true.1 h.2 k (by simpa using hk)
  unfold stepB at this
  simp at this
  rcases this.2 with h | h
  · omega
  · simpa [List.getD_eq_getElem?_getD] using h
theorem rig_len {n : Nat} {xs : List Int} (h : rigB n xs = true) : xs.length ≤ n := by
  have key : ∀ k, k < xs.length → (k : Int) ≤ xs.getD k 0 := by
    intro k
    induction k with
    | zero =>
      intro hk
      have := rig_range h _ (List.getElem_mem hk)
      rw [getD_of (List.getElem?_eq_getElem hk)]
      exact this.1
    | succ k ih =>
      intro hk
      have h1 := ih (by omega)
      have h2 := rig_step h hk (by omega)
      simp only [Nat.add_sub_cancel] at h2
      omega
  rcases Nat.eq_zero_or_pos xs.length with h0 | h0
  · omega
  · have h1 := key (xs.length - 1) (by omega)
    have h2 := rig_range h _ (List.getElem_mem (show xs.length - 1 < xs.length by omega))
    rw [getD_of (List.getElem?_eq_getElem (show xs.length - 1 < xs.length by omega))] at h1
    omega

/-- node i is under one of the nodes xs -/
def anyU (P : List Int) (xs : List Int) (i : Nat) : Bool := xs.any fun x => und P x.toNat i
theorem may_take {P xs : List Int} {j : Nat} {v : Int} (hv : xs[j]? = some v) (i : Nat) : anyU P (xs.take (j + 1)) i = (anyU P (xs.take j) i || und P v.toNat i) := by
  unfold anyU
  obtain ⟨hl, e⟩ := List.getElem?_eq_some_iff.1 hv
  rw [List.take_succ_eq_append_getElem hl, List.any_append, e]; simp
theorem may_self {P xs : List Int} {x : Int} (hx : x ∈ xs) : anyU P xs x.toNat = true := by
  unfold anyU; rw [List.any_eq_true]; exact ⟨x, hx, und_self P _⟩
theorem may_up {P : List Int} (hT : Tree P) {xs : List Int} {i : Nat} (h1 : 1 ≤ i) (hi : i < P.length) (h : anyU P xs (par P i).toNat = true) : anyU P xs i = true := by
  unfold anyU at *
  rw [List.any_eq_true] at *
  obtain ⟨x, hx, hu⟩ := h
  exact ⟨x, hx, by rw [und_up hT h1 hi, hu]; simp⟩

/-- the rights of a key -/
def riN (R : List (List Int)) (k : Int) : List Int := R.getD k.toNat []
def isDr (P : List Int) (D : List Bool) (x : Int) : Bool := inB x 0 ((P.length : Int) - 1) && dor D x.toNat
def isKy (R : List (List Int)) (k : Int) : Bool := inB k 0 ((R.length : Int) - 1)
/-- codes -/
def pE (P : List Int) (D : List Bool) (R : List (List Int)) : Int := if planB P D R then 0 else 1
def pkE (P : List Int) (D : List Bool) (R : List (List Int)) (k : Int) : Int := if planB P D R then (if isKy R k then 0 else 2) else 1
def pdE (P : List Int) (D : List Bool) (R : List (List Int)) (x : Int) : Int := if planB P D R then (if isDr P D x then 0 else 2) else 1
def meE (P : List Int) (D : List Bool) (R : List (List Int)) (k x : Int) : Int := if planB P D R then (if isKy R k && isDr P D x then 0 else 2) else 1
def akE (P : List Int) (D : List Bool) (R : List (List Int)) (xs : List Int) : Int := if planB P D R then (if rigB P.length xs then (if R.length = 10 then 3 else 0) else 2) else 1
/-- what MayEnter answers -/
def meV (P : List Int) (D : List Bool) (R : List (List Int)) (k x : Int) : Bool := decide (meE P D R k x = 0) && anyU P (riN R k) x.toNat
/-- the doors for a key -/
def dfL (P : List Int) (D : List Bool) (R : List (List Int)) (k : Int) : List Int := if pkE P D R k = 0 then amD D (anyU P (riN R k)) P.length else []
/-- the keys for a door, among the first j -/
def keysTo (P : List Int) (R : List (List Int)) (x j : Nat) : List Int := ((List.range j).filter fun k => anyU P (R.getD k []) x).map fun (k : Nat) => (k : Int)
def kfL (P : List Int) (D : List Bool) (R : List (List Int)) (x : Int) : List Int := if pdE P D R x = 0 then keysTo P R x.toNat R.length else []
theorem keysTo_yes {P : List Int} {R : List (List Int)} {x k : Nat} (h : anyU P (R.getD k []) x = true) : keysTo P R x (k + 1) = keysTo P R x k ++ [(k : Int)] := by
  unfold keysTo; rw [List.range_succ, List.filter_append, List.filter_cons_of_pos (p := fun k => anyU P (R.getD k []) x) h]; simp
theorem keysTo_no {P : List Int} {R : List (List Int)} {x k : Nat} (h : anyU P (R.getD k []) x = false) : keysTo P R x (k + 1) = keysTo P R x k := by
  unfold keysTo; rw [List.range_succ, List.filter_append, List.filter_cons_of_neg (p := fun k => anyU P (R.getD k []) x) (by rw [h]; simp)]; simp
theorem keysTo_len (P : List Int) (R : List (List Int)) (x k : Nat) : (keysTo P R x k).length ≤ k := by
  unfold keysTo; rw [List.length_map]; exact Nat.le_trans (List.length_filter_le _ _) (by simp)
/-- access: a row -/
def acRow (P : List Int) (D : List Bool) (xs : List Int) : List Int := (amD D (und P 0) P.length).map fun d => if anyU P xs d.toNat then 1 else 0
def acL (P : List Int) (D : List Bool) (R : List (List Int)) : List (List Int) := if planB P D R then R.map (acRow P D) else []
/-- the nodes of a set whose parents do not belong to it, among the first k -/
def topB (P : List Int) (p : Nat → Bool) (i : Nat) : Bool := p i && (par P i == -1 || !p (par P i).toNat)
def topTo (P : List Int) (p : Nat → Bool) (k : Nat) : List Int := ((List.range k).filter (topB P p)).map fun (i : Nat) => (i : Int)
theorem topTo_yes {P : List Int} {p : Nat → Bool} {k : Nat} (h : topB P p k = true) : topTo P p (k + 1) = topTo P p k ++ [(k : Int)] := by
  unfold topTo; rw [List.range_succ, List.filter_append]; simp [h]
theorem topTo_no {P : List Int} {p : Nat → Bool} {k : Nat} (h : topB P p k = false) : topTo P p (k + 1) = topTo P p k := by
  unfold topTo; rw [List.range_succ, List.filter_append]; simp [h]
theorem topTo_len (P : List Int) (p : Nat → Bool) (k : Nat) : (topTo P p k).length ≤ k := by
  unfold topTo; rw [List.length_map]; exact Nat.le_trans (List.length_filter_le _ _) (by simp)
theorem topTo_congr {P : List Int} (hT : Tree P) {p q : Nat → Bool} (h : ∀ i, i < P.length → p i = q i) {k : Nat} (hk : k ≤ P.length) : topTo P p k = topTo P q k := by
  unfold topTo
  congr 1
  refine List.filter_congr fun i hi => ?_
  have hik : i < P.length := by have := List.mem_range.1 hi; omega
  unfold topB
  rw [h i hik]
  rcases Nat.eq_zero_or_pos i with rfl | h0
  · rw [hT.root]; simp
  · have := hT.up i h0 hik
    rw [h _ (by omega : (par P i).toNat < P.length)]
def srL (P : List Int) (D : List Bool) (R : List (List Int)) (k : Int) : List Int := if pkE P D R k = 0 then topTo P (anyU P (riN R k)) P.length else []
/-- a node with a door under it, all of whose doors a key may enter -/
def whoB (P : List Int) (D : List Bool) (xs : List Int) (i : Nat) : Bool := !(amD D (und P i) P.length).isEmpty && (amD D (und P i) P.length).all fun x => anyU P xs x.toNat
def lrL (P : List Int) (D : List Bool) (R : List (List Int)) (k : Int) : List Int := if pkE P D R k = 0 then topTo P (whoB P D (riN R k)) P.length else []
/-- the doors that no key may enter -/
def noneB (P : List Int) (R : List (List Int)) (i : Nat) : Bool := !(R.any fun xs => anyU P xs i)
def unL (P : List Int) (D : List Bool) (R : List (List Int)) : List Int := if planB P D R then amD D (noneB P R) P.length else []

/-- the model's ways to the same lists -/
theorem doors_filter {P : List Int} (hT : Tree P) (D : List Bool) (p : Nat → Bool) : (amD D (und P 0) P.length).filter (fun d => p d.toNat) = amD D p P.length := by
  unfold amD
  rw [List.filter_map, List.filter_filter]
  congr 1
  refine List.filter_congr fun i hi => ?_
  have := und_zero hT (List.mem_range.1 hi)
  simp [this, Bool.and_comm]
/-- a strictly rising list is the nodes that stand in it -/
theorem rig_sorted {n : Nat} {xs : List Int} (h : rigB n xs = true) : xs = ((List.range n).filter fun (i : Nat) => xs.contains (i : Int)).map fun (i : Nat) => (i : Int) := by
  have mono : ∀ (i j : Nat), i < j → j < xs.length → xs.getD i 0 < xs.getD j 0 := by
    intro i j hij hj
    induction j with
    | zero => omega
    | succ j ih =>
      have h2 := rig_step h hj (by omega)
      simp only [Nat.add_sub_cancel] at h2
      rcases Nat.lt_or_ge i j with h3 | h3
      · have := ih h3 (by omega); omega
      · obtain rfl : i = j := by omega
        exact h2
  have hs : xs.Pairwise (· < ·) := by
    rw [List.pairwise_iff_getElem]
    intro i j hi hj hij
    have := mono i j hij hj
    rwa [getD_of (List.getElem?_eq_getElem hi), getD_of (List.getElem?_eq_getElem hj)] at this
  have hr : (((List.range n).filter fun (i : Nat) => xs.contains (i : Int)).map fun (i : Nat) => (i : Int)).Pairwise (· < ·) := by
    rw [List.pairwise_map]
    refine List.Pairwise.imp (R := (· < ·)) (fun hab => by omega) (List.Pairwise.filter _ List.pairwise_lt_range)
  refine List.Perm.eq_of_pairwise (le := (· < ·)) (fun a b _ _ h1 h2 => by omega) hs hr ?_
  refine (List.perm_ext_iff_of_nodup (hs.imp (fun h => by omega)) (hr.imp (fun h => by omega))).2 fun v => ?_
  constructor
  · intro hv
    have hv2 := rig_range h v hv
    obtain ⟨u, rfl⟩ := Int.eq_ofNat_of_zero_le hv2.1
    rw [List.mem_map]
    exact ⟨u, by rw [List.mem_filter, List.mem_range]; exact ⟨by omega, by simpa using hv⟩, rfl⟩
  · intro hv
    rw [List.mem_map] at hv
    obtain ⟨i, hi, rfl⟩ := hv
    rw [List.mem_filter] at hi
    simpa using hi.2
/-- node xs[i] is under another one of them -/
def overB (P : List Int) (xs : List Int) (i : Nat) : Bool := (List.range xs.length).any fun k => k != i && und P (xs.getD k 0).toNat (xs.getD i 0).toNat
def shortTo (P : List Int) (xs : List Int) (k : Nat) : List Int := ((List.range k).filter fun i => !overB P xs i).map fun i => xs.getD i 0
theorem shortTo_yes {P xs : List Int} {k : Nat} (h : overB P xs k = false) : shortTo P xs (k + 1) = shortTo P xs k ++ [xs.getD k 0] := by
  unfold shortTo; rw [List.range_succ, List.filter_append]; simp [h]
theorem shortTo_no {P xs : List Int} {k : Nat} (h : overB P xs k = true) : shortTo P xs (k + 1) = shortTo P xs k := by
  unfold shortTo; rw [List.range_succ, List.filter_append]; simp [h]
theorem shortTo_len (P xs : List Int) (k : Nat) : (shortTo P xs k).length ≤ k := by
  unfold shortTo; rw [List.length_map]; exact Nat.le_trans (List.length_filter_le _ _) (by simp)
theorem rig_lt {n : Nat} {xs : List Int} (h : rigB n xs = true) : ∀ (i j : Nat), i < j → j < xs.length → xs.getD i 0 < xs.getD j 0 := by
  intro i j hij hj
  induction j with
  | zero => omega
  | succ j ih =>
    have h2 := rig_step h hj (by omega)
    simp only [Nat.add_sub_cancel] at h2
    rcases Nat.lt_or_ge i j with h3 | h3
    · have := ih h3 (by omega); omega
    · obtain rfl : i = j := by omega
      exact h2
/-- .. by values -/
def overV (P : List Int) (xs : List Int) (v : Int) : Bool := xs.any fun u => u != v && und P u.toNat v.toNat
theorem over_is {P : List Int} {n : Nat} {xs : List Int} (h : rigB n xs = true) {i : Nat} (hi : i < xs.length) : overB P xs i = overV P xs (xs.getD i 0) := by
  rw [Bool.eq_iff_iff]
  unfold overB overV
  rw [List.any_eq_true, List.any_eq_true]
  constructor
  · rintro ⟨k, hk, hq⟩
    rw [List.mem_range] at hk
    rw [Bool.and_eq_true, bne_iff_ne] at hq
    refine ⟨xs.getD k 0, by rw [List.getD_eq_getElem?_getD, List.getElem?_eq_getElem hk]; exact List.getElem_mem hk, ?_⟩
    rw [Bool.and_eq_true, bne_iff_ne]
    refine ⟨?_, hq.2⟩
    rcases Nat.lt_or_gt_of_ne hq.1 with hl | hg
    · have := rig_lt h k i hl hi; omega
    · have := rig_lt h i k hg hk; omega
  · rintro ⟨u, hu, hq⟩
    obtain ⟨k, hk, rfl⟩ := List.getElem_of_mem hu
    rw [Bool.and_eq_true, bne_iff_ne] at hq
    have e : xs.getD k 0 = xs[k] := getD_of (List.getElem?_eq_getElem hk)
    refine ⟨k, List.mem_range.2 hk, ?_⟩
    rw [Bool.and_eq_true, bne_iff_ne, e]
    exact ⟨fun e' => hq.1 (by subst e'; exact e.symm), hq.2⟩
theorem range_get (xs : List Int) : xs = (List.range xs.length).map fun i => xs.getD i 0 := by
  apply List.ext_getElem
  · simp
  · intro i h1 h2
    simp [List.getD_eq_getElem?_getD, List.getElem?_eq_getElem h1]
theorem short_filter {P : List Int} {n : Nat} {xs : List Int} (h : rigB n xs = true) : shortTo P xs xs.length = xs.filter fun v => !overV P xs v := by
  unfold shortTo
  have e : (List.range xs.length).filter (fun i => !overB P xs i) = (List.range xs.length).filter ((fun v => !overV P xs v) ∘ fun i => xs.getD i 0) := by
    refine List.filter_congr fun i hi => ?_
    rw [over_is h (List.mem_range.1 hi)]; rfl
  rw [e, ← List.filter_map, ← range_get]
theorem top_short {P : List Int} (hT : Tree P) {xs : List Int} (h : rigB P.length xs = true) : shortTo P xs xs.length = topTo P (anyU P xs) P.length := by
  rw [short_filter h]
  conv => lhs; arg 2; rw [rig_sorted h]
  unfold topTo
  rw [List.filter_map, List.filter_filter]
  congr 1
  refine List.filter_congr fun i hi => ?_
  rw [List.mem_range] at hi
  rw [Bool.eq_iff_iff]
  unfold topB
  simp only [Function.comp, Bool.and_eq_true, Bool.or_eq_true, Bool.not_eq_true', beq_iff_eq]
  have ov : ∀ u ∈ xs, u ≠ (i : Int) → und P u.toNat i = true → 1 ≤ i ∧ anyU P xs (par P i).toNat = true := by
    intro u hu hne hud
    have hu0 := rig_range h u hu
    have h1 : 1 ≤ i := by
      rcases Nat.eq_zero_or_pos i with rfl | hp
      · rw [und_root hT] at hud
        simp at hud
        omega
      · exact hp
    rw [und_up hT h1 hi] at hud
    have hn : (u.toNat == i) = false := by simp; omega
    rw [hn, Bool.false_or] at hud
    refine ⟨h1, ?_⟩
    unfold anyU
    rw [List.any_eq_true]
    exact ⟨u, hu, hud⟩
  constructor
  · rintro ⟨ho, hc⟩
    have hm : (i : Int) ∈ xs := by simpa using hc
    refine ⟨by simpa using may_self (P := P) hm, ?_⟩
    rcases Nat.eq_zero_or_pos i with rfl | h0
    · exact .inl hT.root
    · right
      rcases hq : anyU P xs (par P i).toNat with _ | _
      · rfl
      · unfold anyU at hq
        rw [List.any_eq_true] at hq
        obtain ⟨u, hu, hud⟩ := hq
        have hu0 := rig_range h u hu
        have hp := hT.up i h0 hi
        have hle := und_le hT (by omega : (par P i).toNat < P.length) hud
        have : overV P xs (i : Int) = true := by
          unfold overV
          rw [List.any_eq_true]
          refine ⟨u, hu, ?_⟩
          rw [Bool.and_eq_true, bne_iff_ne, Int.toNat_natCast, und_up hT h0 hi, hud]
          exact ⟨by omega, by simp⟩
        rw [this] at ho; cases ho
  · rintro ⟨hm, hp⟩
    have none : ∀ u ∈ xs, und P u.toNat i = true → u = (i : Int) := by
      intro u hu hud
      by_cases e : u = (i : Int)
      · exact e
      · obtain ⟨h1, h2⟩ := ov u hu e hud
        have := hT.up i h1 hi
        rcases hp with hp | hp
        · omega
        · rw [h2] at hp; cases hp
    constructor
    · rcases hq : overV P xs (i : Int) with _ | _
      · rfl
      · unfold overV at hq
        rw [List.any_eq_true] at hq
        obtain ⟨u, hu, hud⟩ := hq
        rw [Bool.and_eq_true, bne_iff_ne, Int.toNat_natCast] at hud
        exact absurd (none u hu hud.2) hud.1
    · unfold anyU at hm
      rw [List.any_eq_true] at hm
      obtain ⟨u, hu, hud⟩ := hm
      have := none u hu hud
      subst this
      simpa using hu
end Go.Proofs.Ytnadcjclihflcaa
