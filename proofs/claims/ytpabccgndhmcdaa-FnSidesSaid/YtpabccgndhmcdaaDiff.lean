/- Differences and distances of lists: what they are, and the contracts of the functions that reckon them, of the program and of the model. -/
import Derived.Test.YtpabccgndhmcdaaKText2
import Derived.Test.YtpabccgndhmcdaaDpMath
import Derived.Lib.SliceRun
namespace Go.Proofs.Ytpabccgndhmcdaa
open Go.RowKit

theorem absI_nonneg (z : Int) : 0 ≤ absI z := by unfold absI; split <;> omega
theorem absI_neg (z : Int) : absI (-z) = absI z := by unfold absI; split <;> split <;> omega
theorem absI_zero {z : Int} : absI z = 0 ↔ z = 0 := by unfold absI; split <;> omega
def unlike (x y : Int) : Int := if x = y then 0 else 1
theorem unlike_comm (x y : Int) : unlike x y = unlike y x := by unfold unlike; split <;> split <;> omega
theorem unlike_le (x y : Int) : 0 ≤ unlike x y ∧ unlike x y ≤ absI (x - y) ∧ unlike x y ≤ 1 := by unfold unlike absI; split <;> split <;> omega
/-- the first k places together -/
def diffTo (xs ys : List Int) (k : Nat) : Int := sumN k (fun j => unlike (xs.getD j 0) (ys.getD j 0))
def distTo (xs ys : List Int) (k : Nat) : Int := sumN k (fun j => absI (xs.getD j 0 - ys.getD j 0))
def diffI (xs ys : List Int) : Int := diffTo xs ys xs.length
def distI (xs ys : List Int) : Int := distTo xs ys xs.length
theorem diffTo_step {xs ys : List Int} {k : Nat} {x y : Int} (hx : xs[k]? = some x) (hy : ys[k]? = some y) : diffTo xs ys (k + 1) = diffTo xs ys k + unlike x y := by
  show diffTo xs ys k + unlike (xs.getD k 0) (ys.getD k 0) = _
  rw [List.getD_eq_getElem?_getD, List.getD_eq_getElem?_getD, hx, hy]; rfl
theorem distTo_step {xs ys : List Int} {k : Nat} {x y : Int} (hx : xs[k]? = some x) (hy : ys[k]? = some y) : distTo xs ys (k + 1) = distTo xs ys k + absI (x - y) := by
  show distTo xs ys k + absI (xs.getD k 0 - ys.getD k 0) = _
  rw [List.getD_eq_getElem?_getD, List.getD_eq_getElem?_getD, hx, hy]; rfl
theorem diffTo_in (xs ys : List Int) : ∀ k : Nat, 0 ≤ diffTo xs ys k ∧ diffTo xs ys k ≤ k
  | 0 => by simp [diffTo, sumN]
  | k + 1 => by
    have h := diffTo_in xs ys k
    have h2 := unlike_le (xs.getD k 0) (ys.getD k 0)
    have e : diffTo xs ys (k + 1) = diffTo xs ys k + unlike (xs.getD k 0) (ys.getD k 0) := rfl
    omega
/-- depths of a maker -/
theorem getD_in {xs : List Int} (h : allIn 0 7 xs = true) (k : Nat) : 0 ≤ xs.getD k 0 ∧ xs.getD k 0 ≤ 7 := by
  rw [List.getD_eq_getElem?_getD]
  rcases hv : xs[k]? with _ | v
  · simp
  · exact allIn_at h hv
theorem distTo_in {xs ys : List Int} (hx : allIn 0 7 xs = true) (hy : allIn 0 7 ys = true) : ∀ k : Nat, 0 ≤ distTo xs ys k ∧ distTo xs ys k ≤ 7 * k
  | 0 => by simp [distTo, sumN]
  | k + 1 => by
    have h := distTo_in hx hy k
    have h1 := getD_in hx k
    have h2 := getD_in hy k
    have e : distTo xs ys (k + 1) = distTo xs ys k + absI (xs.getD k 0 - ys.getD k 0) := rfl
    have h3 : 0 ≤ absI (xs.getD k 0 - ys.getD k 0) ∧ absI (xs.getD k 0 - ys.getD k 0) ≤ 7 := by unfold absI; split <;> omega
    omega
theorem diffTo_comm (xs ys : List Int) (k : Nat) : diffTo xs ys k = diffTo ys xs k := sumN_congr (fun _ _ => unlike_comm _ _)
theorem distTo_comm (xs ys : List Int) (k : Nat) : distTo xs ys k = distTo ys xs k := sumN_congr (fun _ _ => by rw [← absI_neg]; congr 1; omega)
theorem diffI_comm {xs ys : List Int} (h : xs.length = ys.length) : diffI xs ys = diffI ys xs := by unfold diffI; rw [diffTo_comm, h]
theorem distI_comm {xs ys : List Int} (h : xs.length = ys.length) : distI xs ys = distI ys xs := by unfold distI; rw [distTo_comm, h]
theorem diff_le_dist (xs ys : List Int) : ∀ k, diffTo xs ys k ≤ distTo xs ys k
  | 0 => by simp [diffTo, distTo, sumN]
  | k + 1 => by
    have h := diff_le_dist xs ys k
    have h2 := unlike_le (xs.getD k 0) (ys.getD k 0)
    have e : diffTo xs ys (k + 1) = diffTo xs ys k + unlike (xs.getD k 0) (ys.getD k 0) := rfl
    have e' : distTo xs ys (k + 1) = distTo xs ys k + absI (xs.getD k 0 - ys.getD k 0) := rfl
    omega
theorem diffTo_zero {xs ys : List Int} : ∀ {k : Nat}, diffTo xs ys k = 0 → ∀ j, j < k → xs.getD j 0 = ys.getD j 0
  | 0, _, j, hj => absurd hj (by omega)
  | k + 1, h, j, hj => by
    have h1 := diffTo_in xs ys k
    have h2 := unlike_le (xs.getD k 0) (ys.getD k 0)
    have e : diffTo xs ys (k + 1) = diffTo xs ys k + unlike (xs.getD k 0) (ys.getD k 0) := rfl
    rcases Nat.lt_or_ge j k with hlt | hge
    · exact diffTo_zero (k := k) (by omega) j hlt
    · obtain rfl : j = k := by omega
      have h3 : unlike (xs.getD j 0) (ys.getD j 0) = 0 := by omega
      unfold unlike at h3
      split at h3
      · assumption
      · omega
theorem list_same {xs ys : List Int} (hl : xs.length = ys.length) (h : ∀ j, j < xs.length → xs.getD j 0 = ys.getD j 0) : xs = ys := by
  apply List.ext_getElem? ; intro j
  rcases Nat.lt_or_ge j xs.length with hlt | hge
  · have := h j hlt
    rw [List.getD_eq_getElem?_getD, List.getD_eq_getElem?_getD, List.getElem?_eq_getElem hlt, List.getElem?_eq_getElem (by omega)] at this
    rw [List.getElem?_eq_getElem hlt, List.getElem?_eq_getElem (by omega)]
    simpa using this
  · rw [List.getElem?_eq_none hge, List.getElem?_eq_none (by omega)]
theorem diffTo_self (xs : List Int) : ∀ k, diffTo xs xs k = 0
  | 0 => rfl
  | k + 1 => by
    show diffTo xs xs k + unlike _ _ = 0
    rw [diffTo_self xs k]; unfold unlike; rw [if_pos rfl]; rfl
theorem distTo_self (xs : List Int) : ∀ k, distTo xs xs k = 0
  | 0 => rfl
  | k + 1 => by
    show distTo xs xs k + absI (xs.getD k 0 - xs.getD k 0) = 0
    rw [distTo_self xs k, Int.sub_self]; rfl
theorem diffI_zero {xs ys : List Int} (hl : xs.length = ys.length) : diffI xs ys = 0 ↔ xs = ys :=
  ⟨fun h => list_same hl (diffTo_zero h), fun h => by subst h; exact diffTo_self _ _⟩
theorem distI_zero {xs ys : List Int} (hl : xs.length = ys.length) : distI xs ys = 0 ↔ xs = ys :=
  ⟨fun h => (diffI_zero hl).1 (by have := diff_le_dist xs ys xs.length; have := (diffTo_in xs ys xs.length).1; unfold distI at h; unfold diffI; omega), fun h => by subst h; exact distTo_self _ _⟩

theorem max_abs (x y : Int) : max (x - y) (y - x) = absI (x - y) := by unfold absI; split <;> omega
set_option maxHeartbeats 2000000 in
theorem cutDifference_any (A A' : Option Addr) (n c c' : Nat) (xs ys : List Int) (w : World) (h : Ints w w.heap.size A n xs) (h' : Ints w w.heap.size A' n ys) (hn : n ≤ 1048576) :
    Calls Try.prog 56 #[.slice A n c, .slice A' n c'] w fun e w' => e = .returned (.int .i64 (diffI xs ys)) ∧ ∃ q, w' = w.drewN q := by
  have HL := Lib.hid h.len
  go_enter Try.func56, Try.ntmps56
  go_wp2
  go_loopw [5, 9] (fun z i wr => ∃ k q : Nat, k ≤ n ∧ i = .int .i64 k ∧ z = .int .i64 (diffTo xs ys k) ∧ wr = w.drewN q) (fun _ i _ => n - (intOf i).toNat)
  case atStart => exact ⟨0, 0, Nat.zero_le _, rfl, rfl, rfl⟩
  case round =>
    obtain ⟨k, q, hk, rfl, rfl, rfl⟩ := hrel
    by_cases hlt : k < n
    · obtain ⟨ad, v, rfl, hab, hv, hc⟩ := h.at_ hlt
      obtain ⟨ad', v', rfl, hab', hv', hc'⟩ := h'.at_ hlt
      have HS := Lib.hid (diffTo_step hv hv')
      have HB := Lib.hid (diffTo_in xs ys k)
      have hbb := HB.out
      clear hv hv'
      have i0 : (0 : Int) ≤ (k : Int) := by omega
      have i1 : (k : Int) < (n : Int) := by omega
      by_cases e : v = v'
      · have HE : Hid (diffTo xs ys (k + 1) = diffTo xs ys k) := Lib.hid (by rw [HS.out]; unfold unlike; rw [if_pos e]; omega)
        generalize diffTo xs ys k = z at HE hbb ⊢
        subst e
        go_wp2
        go_quiet (fail)
        go_wp2
        go_roundw
        case rel => exact ⟨k + 1, _, by omega, by go_num, by rw [HE.out], rfl⟩
        case measure => simp [intOf]; omega
      · have HE : Hid (diffTo xs ys (k + 1) = diffTo xs ys k + 1) := Lib.hid (by rw [HS.out]; unfold unlike; rw [if_neg e])
        generalize diffTo xs ys k = z at HE hbb ⊢
        go_wp2
        go_quiet (fail)
        go_wp2
        go_roundw
        case rel => exact ⟨k + 1, _, by omega, by go_num, by rw [HE.out], rfl⟩
        case measure => simp [intOf]; omega
    · have HE : Hid (diffI xs ys = diffTo xs ys k) := Lib.hid (by unfold diffI; rw [HL.out]; congr 1; omega)
      go_wp2
      go_ret
      exact ⟨ret_int HE.out.symm, q, rfl⟩

set_option maxHeartbeats 2000000 in
theorem l03Difference_any (A A' : Option Addr) (n c c' : Nat) (xs ys : List Int) (w : World) (h : Ints w w.heap.size A n xs) (h' : Ints w w.heap.size A' n ys) (hn : n ≤ 1048576) :
    Calls Try.prog 60 #[.slice A n c, .slice A' n c'] w fun e w' => e = .returned (.int .i64 (diffI xs ys)) ∧ ∃ q, w' = w.drewN q := by
  have HL := Lib.hid h.len
  go_enter Try.func60, Try.ntmps60
  go_wp2
  go_loopw [5, 6] (fun z i wr => ∃ k q : Nat, k ≤ n ∧ i = .int .i64 k ∧ z = .int .i64 (diffTo xs ys k) ∧ wr = w.drewN q) (fun _ i _ => n - (intOf i).toNat)
  case atStart => exact ⟨0, 0, Nat.zero_le _, rfl, rfl, rfl⟩
  case round =>
    obtain ⟨k, q, hk, rfl, rfl, rfl⟩ := hrel
    by_cases hlt : k < n
    · obtain ⟨ad, v, rfl, hab, hv, hc⟩ := h.at_ hlt
      obtain ⟨ad', v', rfl, hab', hv', hc'⟩ := h'.at_ hlt
      have HS := Lib.hid (diffTo_step hv hv')
      have HB := Lib.hid (diffTo_in xs ys k)
      have hbb := HB.out
      clear hv hv'
      have i0 : (0 : Int) ≤ (k : Int) := by omega
      have i1 : (k : Int) < (n : Int) := by omega
      by_cases e : v = v'
      · have HE : Hid (diffTo xs ys (k + 1) = diffTo xs ys k) := Lib.hid (by rw [HS.out]; unfold unlike; rw [if_pos e]; omega)
        generalize diffTo xs ys k = z at HE hbb ⊢
        subst e
        go_wp2
        go_quiet (fail)
        go_wp2
        go_roundw
        case rel => exact ⟨k + 1, _, by omega, by go_num, by rw [HE.out], rfl⟩
        case measure => simp [intOf]; omega
      · have HE : Hid (diffTo xs ys (k + 1) = diffTo xs ys k + 1) := Lib.hid (by rw [HS.out]; unfold unlike; rw [if_neg e])
        generalize diffTo xs ys k = z at HE hbb ⊢
        go_wp2
        go_quiet (fail)
        go_wp2
        go_roundw
        case rel => exact ⟨k + 1, _, by omega, by go_num, by rw [HE.out], rfl⟩
        case measure => simp [intOf]; omega
    · have HE : Hid (diffI xs ys = diffTo xs ys k) := Lib.hid (by unfold diffI; rw [HL.out]; congr 1; omega)
      go_wp2
      go_ret
      exact ⟨ret_int HE.out.symm, q, rfl⟩

end Go.Proofs.Ytpabccgndhmcdaa
