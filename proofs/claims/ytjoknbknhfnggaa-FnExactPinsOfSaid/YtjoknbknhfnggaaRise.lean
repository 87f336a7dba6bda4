/- IsRising of the program and of the model answer alike: contracts and the law's walk. -/
import Derived.Test.YtjoknbknhfnggaaList
namespace Go.Proofs.Ytjoknbknhfnggaa
open Go.RowKit

def stepB (m : Int) (xs : List Int) (j : Nat) : Bool := decide (0 ≤ xs.getD j 0) && decide (xs.getD j 0 < m) && (decide (j = 0) || decide (xs.getD (j - 1) 0 < xs.getD j 0))
def riseB (m : Int) (xs : List Int) : Bool := (List.range xs.length).all (stepB m xs)
theorem riseB_no {m : Int} {xs : List Int} {k n : Nat} (hl : xs.length = n) (hk : k < n) (h : stepB m xs k = false) : riseB m xs = false := by
  unfold riseB
  rw [List.all_eq_false]
  exact ⟨k, by simp; omega, by simp [h]⟩
theorem riseB_yes {m : Int} {xs : List Int} {k n : Nat} (hl : xs.length = n) (hk : ¬ k < n) (h : ∀ j, j < k → stepB m xs j = true) : riseB m xs = true := by
  unfold riseB
  rw [List.all_eq_true]
  intro j hj
  exact h j (by have := List.mem_range.1 hj; omega)
theorem getD_of {xs : List Int} {k : Nat} {v : Int} (hv : xs[k]? = some v) : xs.getD k 0 = v := by
  rw [List.getD_eq_getElem?_getD, hv]; rfl
theorem step_next {m : Int} {xs : List Int} {k : Nat} (h : ∀ j, j < k → stepB m xs j = true) (hk : stepB m xs k = true) : ∀ j, j < k + 1 → stepB m xs j = true := by
  intro j hj
  by_cases e : j = k
  · subst e; exact hk
  · exact h j (by omega)
theorem step_neg {m v : Int} {xs : List Int} {k : Nat} (hv : xs[k]? = some v) (h : v < 0) : stepB m xs k = false := by
  unfold stepB; rw [getD_of hv, decide_eq_false (by omega)]; rfl
theorem step_big {m v : Int} {xs : List Int} {k : Nat} (hv : xs[k]? = some v) (h : m ≤ v) : stepB m xs k = false := by
  unfold stepB; rw [getD_of hv, decide_eq_false (p := v < m) (by omega), Bool.and_false]; rfl
theorem step_first {m v : Int} {xs : List Int} {k : Nat} (hv : xs[k]? = some v) (h : 0 ≤ v) (h2 : v < m) (hk : ¬ 0 < k) : stepB m xs k = true := by
  unfold stepB; rw [getD_of hv, decide_eq_true h, decide_eq_true h2, decide_eq_true (show k = 0 by omega)]; rfl
theorem step_low {m v u : Int} {xs : List Int} {k : Nat} (hv : xs[k]? = some v) (hu : xs[k - 1]? = some u) (hk : 0 < k) (h : v ≤ u) : stepB m xs k = false := by
  unfold stepB; rw [getD_of hv, getD_of hu, decide_eq_false (show ¬ k = 0 by omega), decide_eq_false (show ¬ u < v by omega)]; simp
theorem step_up {m v u : Int} {xs : List Int} {k : Nat} (hv : xs[k]? = some v) (hu : xs[k - 1]? = some u) (h : 0 ≤ v) (h2 : v < m) (h3 : u < v) : stepB m xs k = true := by
  unfold stepB; rw [getD_of hv, getD_of hu, decide_eq_true h, decide_eq_true h2, decide_eq_true h3]; simp

theorem isRising_any (A : Option Addr) (n c : Nat) (xs : List Int) (m : Int) (w : World) (h : Ints w w.heap.size A n xs) (hn : n ≤ 1048576) :
    Calls Try.prog 81 #[.slice A n c, .int .i64 m] w fun e w' => e = .returned (.bool (riseB m xs)) ∧ w = w' := by
  have HL := Lib.hid h.len
  go_enter Try.func81, Try.ntmps81
  go_wp2
  go_loop [9] (fun i => ∃ k : Nat, k ≤ n ∧ i = .int .i64 k ∧ Hid (∀ j, j < k → stepB m xs j = true)) (fun i => n - (intOf i).toNat)
  case atStart => exact ⟨0, Nat.zero_le _, rfl, Lib.hid (fun j hj => absurd hj (by omega))⟩
  case round =>
    obtain ⟨k, hk, rfl, hall⟩ := hrel
    by_cases hlt : k < n
    · obtain ⟨ad, v, rfl, hab, hv, hc⟩ := h.at_ hlt
      have HV := Lib.hid hv
      clear hv
      by_cases h1 : v < 0
      · go_wp2
        go_ret
        exact ⟨ret_bool (riseB_no HL.out hlt (step_neg HV.out h1)).symm, rfl⟩
      by_cases h2 : v < m
      · by_cases h3 : 0 < k
        · obtain ⟨ad', u, e, _, hu, hc'⟩ := h.at_ (show k - 1 < n by omega)
          obtain rfl : ad = ad' := by injection e
          clear e
          have HU := Lib.hid hu
          clear hu
          by_cases h4 : v ≤ u
          · go_wp2
            go_ret
            exact ⟨ret_bool (riseB_no HL.out hlt (step_low HV.out HU.out h3 h4)).symm, rfl⟩
          · go_wp2
            go_round
            case rel => exact ⟨k + 1, by omega, by go_num, Lib.hid (step_next hall.out (step_up HV.out HU.out (by omega) h2 (by omega)))⟩
            case measure => simp [intOf]; omega
        · go_wp2
          go_round
          case rel => exact ⟨k + 1, by omega, by go_num, Lib.hid (step_next hall.out (step_first HV.out (by omega) h2 h3))⟩
          case measure => simp [intOf]; omega
      · go_wp2
        go_ret
        exact ⟨ret_bool (riseB_no HL.out hlt (step_big HV.out (by omega))).symm, rfl⟩
    · go_wp2
      go_ret
      exact ⟨ret_bool (riseB_yes HL.out hlt hall.out).symm, rfl⟩

set_option maxHeartbeats 2000000 in
theorem l01Rises_any (A : Option Addr) (n c : Nat) (xs : List Int) (m : Int) (w : World) (h : Ints w w.heap.size A n xs) (hn : n ≤ 1048576) :
    Calls Try.prog 82 #[.slice A n c, .int .i64 m] w fun e w' => e = .returned (.bool (riseB m xs)) ∧ Below w.heap.size w w' := by
  have HL := Lib.hid h.len
  go_enter Try.func82, Try.ntmps82
  go_wp2
  go_loopw [5] (fun i wr => ∃ k : Nat, k ≤ n ∧ i = .int .i64 k ∧ Hid (∀ j, j < k → stepB m xs j = true) ∧ Below w.heap.size w wr) (fun i _ => n - (intOf i).toNat)
  case atStart => exact ⟨0, Nat.zero_le _, rfl, Lib.hid (fun j hj => absurd hj (by omega)), Below.refl _ _⟩
  case round =>
    obtain ⟨k, hk, rfl, hall, hb⟩ := hrel
    have hi := h.below hb
    by_cases hlt : k < n
    · obtain ⟨ad, v, rfl, hab, hv, hc⟩ := hi.at_ hlt
      have HV := Lib.hid hv
      clear hv
      by_cases h1 : v < 0
      · have d1 : decide (v < 0) = true := by simpa using h1
        go_wp2
        go_quiet (fail)
        go_wp2
        go_ret
        exact ⟨ret_bool (riseB_no HL.out hlt (step_neg HV.out h1)).symm, below_drewN hb _⟩
      have d1 : decide (v < 0) = false := by simpa using h1
      by_cases h2 : v < m
      · have d2 : decide (m ≤ v) = false := by simpa using h2
        by_cases h3 : 0 < k
        · have d3 : decide (0 < k) = true := by simpa using h3
          obtain ⟨ad', u, e, _, hu, hc'⟩ := hi.at_ (show k - 1 < n by omega)
          obtain rfl : ad = ad' := by injection e
          clear e
          have HU := Lib.hid hu
          clear hu
          have s1 : IntKind.i64.wrap ((k : Int) - 1) = (k : Int) - 1 := IntWalk.i64_in _ (by omega)
          have s2 : 0 ≤ (k : Int) - 1 := by omega
          have s3 : ((k : Int) - 1).toNat = k - 1 := by omega
          have s4 : (k : Int) - 1 < (n : Int) := by omega
          by_cases h4 : v ≤ u
          · have d4 : decide (v ≤ u) = true := by simpa using h4
            go_wp2
            go_quiet (fail)
            go_wp2
            go_ret
            exact ⟨ret_bool (riseB_no HL.out hlt (step_low HV.out HU.out h3 h4)).symm, below_drewN hb _⟩
          · have d4 : decide (v ≤ u) = false := by simpa using h4
            go_wp2
            go_quiet (fail)
            go_wp2
            go_roundw
            case rel => clear s1 s2 s3 s4; exact ⟨k + 1, by omega, by go_num, Lib.hid (step_next hall.out (step_up HV.out HU.out (by omega) h2 (by omega))), below_drewN hb _⟩
            case measure => simp [intOf]; omega
        · have d3 : decide (0 < k) = false := by simpa using h3
          go_wp2
          go_quiet (fail)
          go_wp2
          go_roundw
          case rel => exact ⟨k + 1, by omega, by go_num, Lib.hid (step_next hall.out (step_first HV.out (by omega) h2 h3)), below_drewN hb _⟩
          case measure => simp [intOf]; omega
      · have d2 : decide (m ≤ v) = true := by simpa using h2
        go_wp2
        go_quiet (fail)
        go_wp2
        go_ret
        exact ⟨ret_bool (riseB_no HL.out hlt (step_big HV.out (by omega))).symm, below_drewN hb _⟩
    · go_wp2
      go_ret
      exact ⟨ret_bool (riseB_yes HL.out hlt hall.out).symm, hb⟩

theorem flat_congr {α β : Type} {f g : α → List β} : ∀ {l : List α}, (∀ x ∈ l, f x = g x) → l.flatMap f = l.flatMap g
  | [], _ => rfl
  | x :: l, h => by
    rw [List.flatMap_cons, List.flatMap_cons, h x (List.mem_cons_self ..), flat_congr (fun y hy => h y (List.mem_cons_of_mem _ hy))]

/-- the depths of a set -/
def setOf (D : Nat) (q : Nat → Bool) : List Int := ((List.range D).filter q).map (fun (d : Nat) => (d : Int))
theorem setOf_congr {D : Nat} {q r : Nat → Bool} (h : ∀ d, d < D → q d = r d) : setOf D q = setOf D r := by
  unfold setOf
  rw [List.filter_congr (fun d hd => h d (List.mem_range.1 hd))]
theorem setOf_snoc (D : Nat) (q : Nat → Bool) : setOf (D + 1) q = if q D then setOf D q ++ [(D : Int)] else setOf D q := by
  unfold setOf
  rw [List.range_succ, List.filter_append, List.map_append, List.filter_cons]
  cases q D <;> simp
theorem setOf_mem {D : Nat} {q : Nat → Bool} {v : Int} : v ∈ setOf D q ↔ ∃ d : Nat, d < D ∧ q d = true ∧ v = (d : Int) := by
  unfold setOf
  rw [List.mem_map]
  constructor
  · rintro ⟨d, hd, rfl⟩
    rw [List.mem_filter] at hd
    exact ⟨d, List.mem_range.1 hd.1, hd.2, rfl⟩
  · rintro ⟨d, h1, h2, rfl⟩
    exact ⟨d, List.mem_filter.2 ⟨List.mem_range.2 h1, h2⟩, rfl⟩
theorem any_setOf {D d : Nat} {q : Nat → Bool} (h : d < D) : (setOf D q).any (fun v => decide (v = (d : Int))) = q d := by
  rw [Bool.eq_iff_iff, List.any_eq_true]
  constructor
  · rintro ⟨v, hv, e⟩
    obtain ⟨d', _, h2, rfl⟩ := setOf_mem.1 hv
    have : d' = d := by simp at e; omega
    subst this; exact h2
  · intro hq
    exact ⟨(d : Int), setOf_mem.2 ⟨d, h, hq, rfl⟩, by simp⟩
/-- what a rising list is -/
theorem rise_facts {M : Int} {xs : List Int} (h : riseB M xs = true) : (∀ v ∈ xs, 0 ≤ v ∧ v < M) ∧ ∀ j, 0 < j → j < xs.length → xs.getD (j - 1) 0 < xs.getD j 0 := by
  unfold riseB at h
  rw [List.all_eq_true] at h
  refine ⟨fun v hv => ?_, fun j hj hl => ?_⟩
  · obtain ⟨j, hj⟩ := List.getElem?_of_mem hv
    have hl := (List.getElem?_eq_some_iff.1 hj).1
    have := h j (List.mem_range.2 hl)
    unfold stepB at this
    rw [getD_of hj] at this
    simp only [Bool.and_eq_true, decide_eq_true_eq] at this
    exact ⟨this.1.1, this.1.2⟩
  · have := h j (List.mem_range.2 hl)
    unfold stepB at this
    simp only [Bool.and_eq_true, Bool.or_eq_true, decide_eq_true_eq] at this
    omega
theorem rise_pairs {M : Int} : ∀ {xs : List Int}, riseB M xs = true → xs.Pairwise (· < ·) := by
  intro xs h
  obtain ⟨_, h2⟩ := rise_facts h
  have go : ∀ (ys : List Int), (∀ j, 0 < j → j < ys.length → ys.getD (j - 1) 0 < ys.getD j 0) → ys.Pairwise (· < ·) := by
    intro ys
    induction ys with
    | nil => intro _; exact List.Pairwise.nil
    | cons y r ih =>
      intro hs
      have hr : r.Pairwise (· < ·) := ih (fun j hj hl => by
        have := hs (j + 1) (by omega) (by simp; omega)
        rw [show j + 1 - 1 = (j - 1) + 1 by omega] at this
        simpa using this)
      refine List.pairwise_cons.2 ⟨?_, hr⟩
      rcases r with _ | ⟨z, r'⟩
      · intro a ha; cases ha
      · have hz : y < z := by
          have := hs 1 (by omega) (by simp)
          simpa using this
        intro a ha
        rcases List.mem_cons.1 ha with rfl | ha'
        · exact hz
        · have := (List.pairwise_cons.1 hr).1 a ha'
          omega
  exact go xs h2
/-- a rising list is walked as the range is, with a test -/
theorem rise_walk {β : Type} (f : Nat → List β) (D : Nat) : ∀ (r d : Nat), d + r = D → ∀ xs : List Int, xs.Pairwise (· < ·) → (∀ v ∈ xs, (d : Int) ≤ v ∧ v < (D : Int)) →
    ((List.range D).drop d).flatMap (fun (e : Nat) => if xs.any (fun v => decide (v = (e : Int))) then f e else []) = xs.flatMap (fun v => f v.toNat)
  | 0, d, hr, xs, _, hb => by
    rcases xs with _ | ⟨x, xs⟩
    · rw [List.drop_of_length_le (by rw [List.length_range]; omega)]; rfl
    · have := hb x (List.mem_cons_self ..); omega
  | r + 1, d, hr, xs, hp, hb => by
    have hd : d < D := by omega
    rw [List.drop_eq_getElem_cons (by rw [List.length_range]; exact hd), List.flatMap_cons, List.getElem_range]
    rcases xs with _ | ⟨x, xs⟩
    · have := rise_walk f D r (d + 1) (by omega) [] List.Pairwise.nil (fun v hv => by cases hv)
      rw [this]; rfl
    · have hx := hb x (List.mem_cons_self ..)
      obtain ⟨h1, h2⟩ := List.pairwise_cons.1 hp
      by_cases hxd : x = (d : Int)
      · subst hxd
        have e1 : ((d : Int) :: xs).any (fun v => decide (v = (d : Int))) = true := by simp
        rw [if_pos e1, List.flatMap_cons, show (d : Int).toNat = d by omega]
        congr 1
        rw [← rise_walk f D r (d + 1) (by omega) xs h2 (fun v hv => by have := h1 v hv; have := hb v (List.mem_cons_of_mem _ hv); omega)]
        refine flat_congr (fun e he => ?_)
        have hde : d + 1 ≤ e := by
          obtain ⟨j, hj⟩ := List.getElem?_of_mem he
          rw [List.getElem?_drop] at hj
          obtain ⟨_, h⟩ := List.getElem?_eq_some_iff.1 hj
          rw [List.getElem_range] at h
          omega
        rw [List.any_cons, decide_eq_false (by omega : ¬ (d : Int) = (e : Int)), Bool.false_or]
      · have e1 : (x :: xs).any (fun v => decide (v = (d : Int))) = false := by
          rw [List.any_eq_false]
          intro v hv
          have : (d : Int) < v := by
            rcases List.mem_cons.1 hv with rfl | hv'
            · omega
            · have := h1 v hv'; omega
          simp; omega
        rw [if_neg (by rw [e1]; simp), List.nil_append]
        exact rise_walk f D r (d + 1) (by omega) (x :: xs) hp (fun v hv => by
          rcases List.mem_cons.1 hv with rfl | hv'
          · omega
          · have := h1 v hv'; have := (hb v hv); omega)
theorem flat_one {α β : Type} (q : α → Bool) (f : α → β) : ∀ l : List α, l.flatMap (fun x => if q x then [f x] else []) = (l.filter q).map f
  | [] => rfl
  | x :: l => by
    rw [List.flatMap_cons, flat_one q f l, List.filter_cons]
    cases q x <;> simp
theorem rise_walk0 {β : Type} (f : Nat → List β) {D : Int} (hD : 0 ≤ D) {xs : List Int} (h : riseB D xs = true) :
    (List.range D.toNat).flatMap (fun (e : Nat) => if xs.any (fun v => decide (v = (e : Int))) then f e else []) = xs.flatMap (fun v => f v.toNat) := by
  have := rise_walk f D.toNat D.toNat 0 (by omega) xs (rise_pairs h) (fun v hv => by have := (rise_facts h).1 v hv; omega)
  rwa [List.drop_zero] at this
/-- .. and is the set of its depths -/
theorem rise_set {D : Int} (hD : 0 ≤ D) {xs : List Int} (h : riseB D xs = true) : setOf D.toNat (fun (d : Nat) => xs.any (fun v => decide (v = (d : Int)))) = xs := by
  have h1 := rise_walk0 (fun (e : Nat) => [((e : Nat) : Int)]) hD h
  rw [flat_one] at h1
  unfold setOf
  rw [h1]
  have go : ∀ ys : List Int, (∀ v ∈ ys, 0 ≤ v) → ys.flatMap (fun v => [((v.toNat : Nat) : Int)]) = ys := by
    intro ys
    induction ys with
    | nil => intro _; rfl
    | cons y r ih =>
      intro hv
      rw [List.flatMap_cons, ih (fun v h => hv v (List.mem_cons_of_mem _ h))]
      have := hv y (List.mem_cons_self ..)
      rw [show ((y.toNat : Nat) : Int) = y by omega]; rfl
  exact go xs (fun v hv => ((rise_facts h).1 v hv).1)
/-- the members of a rising list that keep a test -/
theorem rise_filter {D : Int} (hD : 0 ≤ D) {xs : List Int} (h : riseB D xs = true) (q : Nat → Bool) : setOf D.toNat (fun (d : Nat) => xs.any (fun v => decide (v = (d : Int))) && q d) = xs.filter (fun v => q v.toNat) := by
  have h1 := rise_walk0 (fun (e : Nat) => if q e then [((e : Nat) : Int)] else []) hD h
  have h2 : ∀ l : List Nat, l.flatMap (fun (e : Nat) => if xs.any (fun v => decide (v = (e : Int))) then (if q e then [((e : Nat) : Int)] else []) else []) = (l.filter (fun (d : Nat) => xs.any (fun v => decide (v = (d : Int))) && q d)).map (fun (d : Nat) => (d : Int)) := by
    intro l
    rw [← flat_one]
    refine flat_congr (fun e _ => ?_)
    cases xs.any (fun v => decide (v = (e : Int))) <;> cases q e <;> rfl
  unfold setOf
  rw [← h2, h1]
  have go : ∀ ys : List Int, (∀ v ∈ ys, 0 ≤ v) → ys.flatMap (fun v => if q v.toNat then [((v.toNat : Nat) : Int)] else []) = ys.filter (fun v => q v.toNat) := by
    intro ys
    induction ys with
    | nil => intro _; rfl
    | cons y r ih =>
      intro hv
      rw [List.flatMap_cons, ih (fun v h => hv v (List.mem_cons_of_mem _ h)), List.filter_cons]
      have := hv y (List.mem_cons_self ..)
      rw [show ((y.toNat : Nat) : Int) = y by omega]
      cases q y.toNat <;> rfl
  exact go xs (fun v hv => ((rise_facts h).1 v hv).1)

/-! locks -/

end Go.Proofs.Ytjoknbknhfnggaa
