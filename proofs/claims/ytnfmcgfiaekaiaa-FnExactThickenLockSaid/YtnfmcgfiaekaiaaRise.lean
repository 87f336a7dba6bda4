/- IsRising of the program and of the model answer alike: contracts and the law's walk. -/
import Derived.Test.YtnfmcgfiaekaiaaList
namespace Go.Proofs.Ytnfmcgfiaekaiaa
open Go.RowKit

def stepB (m : Int) (xs : List Int) (j : Nat) : Bool := decide (0 ≤ xs.getD j 0) && decide (xs.getD j 0 < m) && (decide (j = 0) || decide (xs.getD (j - 1) 0 < xs.getD j 0))
def riseB (m : Int) (xs : List Int) : Bool := (List.range xs.length).all (stepB m xs)
theorem riseB_no {m : Int} {xs : List Int} {k n : Nat} (hl : xs.length = n) (hk : k < n) (h : stepB m xs k = false) : riseB m xs = false := by
  unfold riseB
  rw [List.all_eq_false]
  exact ⟨k, by simp; omega, by simp [h]⟩
theorem riseB_yes {m : Int} {xs : List Int} {k n : Nat} (hl : xs.length = n) (hk : ¬ k < n) (h : ∀ j, j < k → stepB m xs j = true) : riseB m xs = true := by
  unfold riseB
  rw [List.all_eq_true]
  intro j hj
  exact h j (by have := List.mem_range.1 hj; omega)
theorem getD_of {xs : List Int} {k : Nat} {v : Int} (hv : xs[k]? = some v) : xs.getD k 0 = v := by
  rw [List.getD_eq_getElem?_getD, hv]; rfl
theorem step_next {m : Int} {xs : List Int} {k : Nat} (h : ∀ j, j < k → stepB m xs j = true) (hk : stepB m xs k = true) : ∀ j, j < k + 1 → stepB m xs j = true := by
  intro j hj
  by_cases e : j = k
  · subst e; exact hk
  · exact h j (by omega)
theorem step_neg {m v : Int} {xs : List Int} {k : Nat} (hv : xs[k]? = some v) (h : v < 0) : stepB m xs k = false := by
  unfold stepB; rw [getD_of hv, decide_eq_false (by omega)]; rfl
theorem step_big {m v : Int} {xs : List Int} {k : Nat} (hv : xs[k]? = some v) (h : m ≤ v) : stepB m xs k = false := by
  unfold stepB; rw [getD_of hv, decide_eq_false (p := v < m) (by omega), Bool.and_false]; rfl
theorem step_first {m v : Int} {xs : List Int} {k : Nat} (hv : xs[k]? = some v) (h : 0 ≤ v) (h2 : v < m) (hk : ¬ 0 < k) : stepB m xs k = true := by
  unfold stepB; rw [getD_of hv, decide_eq_true h, decide_eq_true h2, decide_eq_true (show k = 0 by omega)]; rfl
theorem step_low {m v u : Int} {xs : List Int} {k : Nat} (hv : xs[k]? = some v) (hu : xs[k - 1]? = some u) (hk : 0 < k) (h : v ≤ u) : stepB m xs k = false := by
  unfold stepB; rw [getD_of hv, getD_of hu, decide_eq_false (show ¬ k = 0 by omega), decide_eq_false (show ¬ u < v by omega)]; simp
theorem step_up {m v u : Int} {xs : List Int} {k : Nat} (hv : xs[k]? = some v) (hu : xs[k - 1]? = some u) (h : 0 ≤ v) (h2 : v < m) (h3 : u < v) : stepB m xs k = true := by
  unfold stepB; rw [getD_of hv, getD_of hu, decide_eq_true h, decide_eq_true h2, decide_eq_true h3]; simp

theorem isRising_any (A : Option Addr) (n c : Nat) (xs : List Int) (m : Int) (w : World) (h : Ints w w.heap.size A n xs) (hn : n ≤ 1048576) :
    Calls Try.prog 85 #[.slice A n c, .int .i64 m] w fun e w' => e = .returned (.bool (riseB m xs)) ∧ w = w' := by
  have HL := Lib.hid h.len
  go_enter Try.func85, Try.ntmps85
  go_wp2
  go_loop [9] (fun i => ∃ k : Nat, k ≤ n ∧ i = .int .i64 k ∧ Hid (∀ j, j < k → stepB m xs j = true)) (fun i => n - (intOf i).toNat)
  case atStart => exact ⟨0, Nat.zero_le _, rfl, Lib.hid (fun j hj => absurd hj (by omega))⟩
  case round =>
    obtain ⟨k, hk, rfl, hall⟩ := hrel
    by_cases hlt : k < n
    · obtain ⟨ad, v, rfl, hab, hv, hc⟩ := h.at_ hlt
      have HV := Lib.hid hv
      clear hv
      by_cases h1 : v < 0
      · go_wp2
        go_ret
        exact ⟨ret_bool (riseB_no HL.out hlt (step_neg HV.out h1)).symm, rfl⟩
      by_cases h2 : v < m
      · by_cases h3 : 0 < k
        · obtain ⟨ad', u, e, _, hu, hc'⟩ := h.at_ (show k - 1 < n by omega)
          obtain rfl : ad = ad' := by injection e
          clear e
          have HU := Lib.hid hu
          clear hu
          by_cases h4 : v ≤ u
          · go_wp2
            go_ret
            exact ⟨ret_bool (riseB_no HL.out hlt (step_low HV.out HU.out h3 h4)).symm, rfl⟩
          · go_wp2
            go_round
            case rel => exact ⟨k + 1, by omega, by go_num, Lib.hid (step_next hall.out (step_up HV.out HU.out (by omega) h2 (by omega)))⟩
            case measure => simp [intOf]; omega
        · go_wp2
          go_round
          case rel => exact ⟨k + 1, by omega, by go_num, Lib.hid (step_next hall.out (step_first HV.out (by omega) h2 h3))⟩
          case measure => simp [intOf]; omega
      · go_wp2
        go_ret
        exact ⟨ret_bool (riseB_no HL.out hlt (step_big HV.out (by omega))).symm, rfl⟩
    · go_wp2
      go_ret
      exact ⟨ret_bool (riseB_yes HL.out hlt hall.out).symm, rfl⟩

set_option maxHeartbeats 2000000 in
theorem l01Rises_any (A : Option Addr) (n c : Nat) (xs : List Int) (m : Int) (w : World) (h : Ints w w.heap.size A n xs) (hn : n ≤ 1048576) :
    Calls Try.prog 86 #[.slice A n c, .int .i64 m] w fun e w' => e = .returned (.bool (riseB m xs)) ∧ Below w.heap.size w w' := by
  have HL := Lib.hid h.len
  go_enter Try.func86, Try.ntmps86
  go_wp2
  go_loopw [5] (fun i wr => ∃ k : Nat, k ≤ n ∧ i = .int .i64 k ∧ Hid (∀ j, j < k → stepB m xs j = true) ∧ Below w.heap.size w wr) (fun i _ => n - (intOf i).toNat)
  case atStart => exact ⟨0, Nat.zero_le _, rfl, Lib.hid (fun j hj => absurd hj (by omega)), Below.refl _ _⟩
  case round =>
    obtain ⟨k, hk, rfl, hall, hb⟩ := hrel
    have hi := h.below hb
    by_cases hlt : k < n
    · obtain ⟨ad, v, rfl, hab, hv, hc⟩ := hi.at_ hlt
      have HV := Lib.hid hv
      clear hv
      by_cases h1 : v < 0
      · have d1 : decide (v < 0) = true := by simpa using h1
        go_wp2
        go_quiet (fail)
        go_wp2
        go_ret
        exact ⟨ret_bool (riseB_no HL.out hlt (step_neg HV.out h1)).symm, below_drewN hb _⟩
      have d1 : decide (v < 0) = false := by simpa using h1
      by_cases h2 : v < m
      · have d2 : decide (m ≤ v) = false := by simpa using h2
        by_cases h3 : 0 < k
        · have d3 : decide (0 < k) = true := by simpa using h3
          obtain ⟨ad', u, e, _, hu, hc'⟩ := hi.at_ (show k - 1 < n by omega)
          obtain rfl : ad = ad' := by injection e
          clear e
          have HU := Lib.hid hu
          clear hu
          have s1 : IntKind.i64.wrap ((k : Int) - 1) = (k : Int) - 1 := IntWalk.i64_in _ (by omega)
          have s2 : 0 ≤ (k : Int) - 1 := by omega
          have s3 : ((k : Int) - 1).toNat = k - 1 := by omega
          have s4 : (k : Int) - 1 < (n : Int) := by omega
          by_cases h4 : v ≤ u
          · have d4 : decide (v ≤ u) = true := by simpa using h4
            go_wp2
            go_quiet (fail)
            go_wp2
            go_ret
            exact ⟨ret_bool (riseB_no HL.out hlt (step_low HV.out HU.out h3 h4)).symm, below_drewN hb _⟩
          · have d4 : decide (v ≤ u) = false := by simpa using h4
            go_wp2
            go_quiet (fail)
            go_wp2
            go_roundw
            case rel => clear s1 s2 s3 s4; exact ⟨k + 1, by omega, by go_num, Lib.hid (step_next hall.out (step_up HV.out HU.out (by omega) h2 (by omega))), below_drewN hb _⟩
            case measure => simp [intOf]; omega
        · have d3 : decide (0 < k) = false := by simpa using h3
          go_wp2
          go_quiet (fail)
          go_wp2
          go_roundw
          case rel => exact ⟨k + 1, by omega, by go_num, Lib.hid (step_next hall.out (step_first HV.out (by omega) h2 h3)), below_drewN hb _⟩
          case measure => simp [intOf]; omega
      · have d2 : decide (m ≤ v) = true := by simpa using h2
        go_wp2
        go_quiet (fail)
        go_wp2
        go_ret
        exact ⟨ret_bool (riseB_no HL.out hlt (step_big HV.out (by omega))).symm, below_drewN hb _⟩
    · go_wp2
      go_ret
      exact ⟨ret_bool (riseB_yes HL.out hlt hall.out).symm, hb⟩

end Go.Proofs.Ytnfmcgfiaekaiaa
