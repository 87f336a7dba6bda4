/- ReverseKey, of the program and of the model. -/
import Derived.Test.YtpbimekfhdgdoaaMirror
import Derived.RegionTactic
import Derived.BigRegion
namespace Go.Proofs.Ytpbimekfhdgdoaa
open Go.RowKit

/-- the list after i exchanges -/
def rvAt (xs : List Int) (n i : Nat) : List Int := (List.range n).map (fun k => if k < i ∨ n ≤ k + i then xs.getD (n - 1 - k) 0 else xs.getD k 0)
theorem rvAt_len (xs : List Int) (n i : Nat) : (rvAt xs n i).length = n := by simp [rvAt]
theorem rvAt_at (xs : List Int) (n i : Nat) {k : Nat} (hk : k < n) : (rvAt xs n i)[k]? = some (if k < i ∨ n ≤ k + i then xs.getD (n - 1 - k) 0 else xs.getD k 0) := by
  unfold rvAt
  rw [List.getElem?_map, List.getElem?_range hk]; rfl
theorem rvAt_zero {xs : List Int} {n : Nat} (h : xs.length = n) : rvAt xs n 0 = xs := by
  refine List.ext_getElem? (fun k => ?_)
  rcases Nat.lt_or_ge k n with hk | hk
  · rw [rvAt_at xs n 0 hk, if_neg (by omega), List.getD_eq_getElem?_getD, List.getElem?_eq_getElem (by omega)]; rfl
  · rw [List.getElem?_eq_none (by rw [rvAt_len]; exact hk), List.getElem?_eq_none (by omega)]
theorem rvAt_end {xs : List Int} {n i : Nat} (h : xs.length = n) (hi : n ≤ 2 * i + 1) : rvAt xs n i = xs.reverse := by
  refine List.ext_getElem? (fun k => ?_)
  rcases Nat.lt_or_ge k n with hk | hk
  · rw [rvAt_at xs n i hk, List.getElem?_reverse (by omega), h]
    by_cases h1 : k < i ∨ n ≤ k + i
    · rw [if_pos h1, List.getD_eq_getElem?_getD, List.getElem?_eq_getElem (by omega)]; rfl
    · rw [if_neg h1, List.getD_eq_getElem?_getD, show n - 1 - k = k by omega, List.getElem?_eq_getElem (by omega)]; rfl
  · rw [List.getElem?_eq_none (by rw [rvAt_len]; exact hk), List.getElem?_eq_none (by rw [List.length_reverse]; omega)]
theorem rvAt_step {xs : List Int} {n i q : Nat} (hq : i + q + 1 = n) (hi : i < q) : ((rvAt xs n i).set i (xs.getD q 0)).set q (xs.getD i 0) = rvAt xs n (i + 1) := by
  refine List.ext_getElem? (fun k => ?_)
  rcases Nat.lt_or_ge k n with hk | hk
  · rw [rvAt_at xs n (i + 1) hk]
    by_cases h1 : k = q
    · subst h1
      rw [List.getElem?_set_self (by rw [List.length_set, rvAt_len]; exact hk), if_pos (by omega), show n - 1 - k = i by omega]
    · rw [List.getElem?_set_ne (by omega)]
      by_cases h2 : k = i
      · subst h2
        rw [List.getElem?_set_self (by rw [rvAt_len]; exact hk), if_pos (by omega), show n - 1 - k = q by omega]
      · rw [List.getElem?_set_ne (by omega), rvAt_at xs n i hk]
        by_cases h3 : k < i ∨ n ≤ k + i
        · rw [if_pos h3, if_pos (by omega)]
        · rw [if_neg h3, if_neg (by omega)]
  · rw [List.getElem?_eq_none (by rw [List.length_set, List.length_set, rvAt_len]; exact hk), List.getElem?_eq_none (by rw [rvAt_len]; exact hk)]

def rkvL (m : Mk) (xs : List Int) : List Int := if ktE m xs = 0 then xs.reverse else []
theorem rkv_yes {m : Mk} {xs : List Int} (h : ktE m xs = 0) : rkvL m xs = xs.reverse := by unfold rkvL; rw [if_pos h]
theorem rkv_no {m : Mk} {xs : List Int} (h : ktE m xs ≠ 0) : rkvL m xs = [] := by unfold rkvL; rw [if_neg h]

theorem rev_snoc {xs : List Int} {n k q : Nat} {v : Int} (hl : xs.length = n) (hq : q + k + 1 = n) (hv : xs[q]? = some v) : xs.reverse.take k ++ [v] = xs.reverse.take (k + 1) := by
  have hk : k < xs.reverse.length := by rw [List.length_reverse]; omega
  rw [List.take_succ_eq_append_getElem hk]
  have : xs.reverse[k]? = some v := by rw [List.getElem?_reverse (by omega), hl, show n - 1 - k = q by omega, hv]
  rw [List.getElem?_eq_getElem hk] at this
  injection this with this
  rw [this]

end Go.Proofs.Ytpbimekfhdgdoaa
