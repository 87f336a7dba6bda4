/- At distance 1 every side code is a family. Plain lists. -/
import Derived.Test.YtpabccgndhmcdaaFamL
namespace Go.Proofs.Ytpabccgndhmcdaa
open Go.RowKit

theorem code_number {s : Nat} {v : Int} {j : Nat} (h1 : 1 ≤ s) (h5 : s ≤ 5) (hv : 2 ≤ v) (hv5 : v ≤ 5) (h : (j : Int) < powC v s) : pre (codeN s v j) (List.replicate s v) s = j := by
  have hp := (pow_small hv hv5 h5).2
  have q0 := (quo_zero h1 h5 hv hv5 (show (0 : Int) ≤ j by omega))
  have q1 : quo (List.replicate s v) j (List.replicate s v).length = 0 := by
    have hr := (quo_range (xs := List.replicate s v) (m := j) (by omega) (by omega) (withB_true (rep_bases h5 hv hv5)).2 (List.replicate s v).length (Nat.le_refl _)).1
    have : ¬ 0 < quo (List.replicate s v) j (List.replicate s v).length := by rw [q0]; omega
    omega
  have := pre_digits q1 (List.replicate s v).length (Nat.le_refl _)
  rw [Nat.sub_self, List.length_replicate] at this
  exact this
theorem code_inj {s : Nat} {v : Int} {j k : Nat} (h1 : 1 ≤ s) (h5 : s ≤ 5) (hv : 2 ≤ v) (hv5 : v ≤ 5) (hj : (j : Int) < powC v s) (hk : (k : Int) < powC v s) (e : codeN s v j = codeN s v k) : j = k := by
  have a := code_number h1 h5 hv hv5 hj
  rw [e, code_number h1 h5 hv hv5 hk] at a
  omega
theorem fam_one {s : Nat} {v : Int} (h1 : 1 ≤ s) (h5 : s ≤ 5) (hv : 2 ≤ v) (hv5 : v ≤ 5) : ∀ k : Nat, (k : Int) ≤ powC v s → (famTo s v 1 k).length = k
  | 0, _ => rfl
  | k + 1, hk => by
    have hf : farB 1 (famTo s v 1 k) (codeN s v k) = true := by
      unfold farB
      rw [List.all_eq_true]
      intro f hf
      obtain ⟨j, hj, rfl⟩ := fam_mem hf
      refine decide_eq_true ?_
      have h0 := (diffTo_in (codeN s v j) (codeN s v k) (codeN s v j).length).1
      have h2 : diffI (codeN s v j) (codeN s v k) ≠ 0 := fun e => by
        rw [diffI_zero (by rw [codeN_len, codeN_len])] at e
        have := code_inj h1 h5 hv hv5 (by omega) (by omega) e
        omega
      unfold diffI at h2 ⊢
      omega
    rw [fam_yes hf, List.length_append, fam_one h1 h5 hv hv5 k (by omega)]
    rfl
/-- as many codes are apart by one as there are -/
theorem all_one {s v : Int} (h : csE s v = 0) : cfV s v 1 = csV s v ∧ cfE s v 1 = 0 := by
  rcases hy : sysB s v with _ | _
  · rw [(cs_no hy).2] at h; cases h
  obtain ⟨s0, s1, v0, v1⟩ := sys_true hy
  have hd : sdB s v 1 = true := by unfold sdB; rw [hy, Bool.true_and]; exact inB_true.2 (by omega)
  obtain ⟨S, rfl⟩ := Int.eq_ofNat_of_zero_le (show 0 ≤ s by omega)
  refine ⟨?_, (cf_yes hd).2⟩
  rw [(cf_yes hd).1, (cs_yes hy).1]
  have hp := (pow_small v0 v1 (show S ≤ 5 by omega)).1
  show ((famTo S v 1 (powC v S).toNat).length : Int) = powC v S
  rw [fam_one (by omega) (by omega) v0 v1 _ (by omega)]
  omega

end Go.Proofs.Ytpabccgndhmcdaa
