/- The fewest keys for some doors: plain lists and numbers. -/
import Derived.Test.YtidjnnooeepklaaTabM
namespace Go.Proofs.Ytidjnnooeepklaa
open Go Go.RowKit

/-- the lists of k numbers below n, strictly increasing, in lexicographic order -/
def chs : Nat → Nat → List (List Int)
  | _, 0 => [[]]
  | n, k + 1 => (List.range (n - k)).flatMap fun f => (chs (n - f - 1) k).map fun r => (f : Int) :: r.map fun x => x + (f : Int) + 1
/-- the list of a number whose bit n - 1 - i stands for i -/
def lisU (n u : Nat) : List Int := whereL (fun i => u.testBit (n - 1 - i)) n
/-- how many bits -/
def popU (n u : Nat) : Nat := ((List.range n).filter fun i => u.testBit i).length
/-- the numbers below 2 ^ n, the greatest first -/
def descU (n : Nat) : List Nat := (List.range (2 ^ n)).reverse
set_option maxRecDepth 100000 in
theorem chs_desc : ∀ n, n < 11 → ∀ k, k < n + 1 → chs n k = ((descU n).filter fun u => popU n u == k).map (lisU n) := by decide +kernel
theorem chs_at {n k : Nat} (hn : n < 11) (hk : k < n + 1) {i : Nat} {L : List Int} (h : (chs n k)[i]? = some L) : ∃ u, L = lisU n u ∧ u < 2 ^ n ∧ popU n u = k := by
  rw [chs_desc n hn k hk, List.getElem?_map] at h
  cases hq : ((descU n).filter fun u => popU n u == k)[i]? with
  | none => rw [hq] at h; cases h
  | some u =>
    rw [hq] at h
    injection h with h
    have hm := List.mem_filter.1 (List.mem_of_getElem? hq)
    exact ⟨u, h.symm, List.mem_range.1 (List.mem_reverse.1 hm.1), by simpa using hm.2⟩
/-- descending lists: what stands before is greater -/
theorem desc_sorted (n : Nat) : (descU n).Pairwise (fun a b => b < a) := by
  unfold descU
  rw [List.pairwise_reverse]
  exact List.pairwise_lt_range
/-- the first list in the order of the model is the greatest number among the smallest sets -/
theorem first_is {n : Nat} (hn : n < 11) {p : List Int → Bool} {r : Nat} (hr : r < 2 ^ n) (pr : p (lisU n r) = true)
    (least : ∀ u, u < 2 ^ n → p (lisU n u) = true → popU n r < popU n u ∨ popU n r = popU n u ∧ u ≤ r)
    {k i : Nat} {L : List Int} (hk : k < n + 1) (hL : (chs n k)[i]? = some L) (pL : p L = true)
    (before : ∀ k' i' L', (k' < k ∨ k' = k ∧ i' < i) → (chs n k')[i']? = some L' → p L' = false) : L = lisU n r := by
  rw [chs_desc n hn k hk, List.getElem?_map] at hL
  cases hq : ((descU n).filter fun u => popU n u == k)[i]? with
  | none => rw [hq] at hL; cases hL
  | some u =>
    rw [hq] at hL
    injection hL with hL
    subst hL
    have hm := List.mem_filter.1 (List.mem_of_getElem? hq)
    have hu : u < 2 ^ n := List.mem_range.1 (List.mem_reverse.1 hm.1)
    have hpu : popU n u = k := by simpa using hm.2
    have hrk : popU n r < n + 1 := by
      unfold popU
      exact Nat.lt_succ_of_le (Nat.le_trans (List.length_filter_le _ _) (by simp))
    have hrm : r ∈ (descU n).filter fun u => popU n u == popU n r := List.mem_filter.2 ⟨List.mem_reverse.2 (List.mem_range.2 hr), by simp⟩
    obtain ⟨j, hj⟩ := List.getElem?_of_mem hrm
    have hcj : (chs n (popU n r))[j]? = some (lisU n r) := by rw [chs_desc n hn _ hrk, List.getElem?_map, hj]; rfl
    rcases least u hu pL with hlt | ⟨heq, hle⟩
    · exfalso
      have := before (popU n r) j _ (.inl (by omega)) hcj
      rw [pr] at this; cases this
    · rw [heq, hpu] at hj hcj
      by_cases e : u = r
      · rw [e]
      · exfalso
        have hij : i ≠ j := by
          intro e2; subst e2
          rw [hq] at hj; injection hj with hj; exact e hj
        have hsorted : ((descU n).filter fun u => popU n u == k).Pairwise (fun a b => b < a) := (desc_sorted n).filter _
        have hji : j < i := by
          rcases Nat.lt_trichotomy i j with h1 | h1 | h1
          · exfalso
            obtain ⟨li, ei⟩ := List.getElem?_eq_some_iff.1 hq
            obtain ⟨lj, ej⟩ := List.getElem?_eq_some_iff.1 hj
            have := (List.pairwise_iff_getElem.1 hsorted) i j li lj h1
            rw [ei, ej] at this
            omega
          · exact absurd h1 hij
          · exact h1
        have := before k j _ (.inr ⟨rfl, hji⟩) hcj
        rw [pr] at this; cases this
/-- does each of some doors stand in a row of one of some keys -/
def opB (T : List (List Int)) (ks ds : List Int) : Bool := ds.all fun d => ks.any fun k => decide ((getR T k.toNat).getD d.toNat 0 = 1)
/-- the best number seen so far, from the greatest number down: those from v on -/
def bestU (n : Nat) (p : Nat → Bool) (v : Nat) (r : Nat) : Prop :=
  r < 2 ^ n ∧ p r = true ∧ ∀ u, v ≤ u → u < 2 ^ n → p u = true → popU n r < popU n u ∨ popU n r = popU n u ∧ u ≤ r
theorem best_keep {n v r : Nat} {p : Nat → Bool} (h : bestU n p (v + 1) r) (hv : p v = false ∨ popU n r ≤ popU n v) (hr : v ≤ r) : bestU n p v r := by
  refine ⟨h.1, h.2.1, fun u h1 h2 h3 => ?_⟩
  by_cases e : u = v
  · subst e
    rcases hv with h4 | h4
    · rw [h3] at h4; cases h4
    · rcases Nat.lt_or_eq_of_le h4 with h5 | h5
      · exact .inl h5
      · exact .inr ⟨h5, by omega⟩
  · exact h.2.2 u (by omega) h2 h3
theorem best_new {n v r : Nat} {p : Nat → Bool} (h : bestU n p (v + 1) r) (hv : p v = true) (hn : v < 2 ^ n) (hlt : popU n v < popU n r) : bestU n p v v := by
  refine ⟨hn, hv, fun u h1 h2 h3 => ?_⟩
  by_cases e : u = v
  · subst e; exact .inr ⟨rfl, Nat.le_refl _⟩
  · rcases h.2.2 u (by omega) h2 h3 with h4 | h4
    · exact .inl (by omega)
    · exact .inl (by omega)

end Go.Proofs.Ytidjnnooeepklaa
