/- Plain mathematics of the law of choices: sums and symmetry of the quotients up to 60, reckoned by the kernel. -/
import Derived.Test.YtnonmjllopcaeaaChoose
namespace Go.Proofs.Ytnonmjllopcaeaa

def pascalGood (n : Nat) : Bool := (List.range (n + 1)).all (fun k =>
  (if k = 0 ∨ k = n then chooseN n k == 1 else chooseN n k == chooseN (n - 1) (k - 1) + chooseN (n - 1) k) && chooseN n (n - k) == chooseN n k)
theorem pascal_all : (List.range 61).all pascalGood = true := by decide +kernel
theorem pascal_row {n k : Nat} (hn : n ≤ 60) (hk : k ≤ n) : ((k = 0 ∨ k = n) → chooseN n k = 1) ∧ (¬ (k = 0 ∨ k = n) → chooseN n k = chooseN (n - 1) (k - 1) + chooseN (n - 1) k) ∧ chooseN n (n - k) = chooseN n k := by
  have h := List.all_eq_true.1 pascal_all n (List.mem_range.2 (by omega))
  have h2 := List.all_eq_true.1 h k (List.mem_range.2 (by omega))
  rw [Bool.and_eq_true] at h2
  obtain ⟨h3, h4⟩ := h2
  refine ⟨fun hc => ?_, fun hc => ?_, by simpa using h4⟩
  · rw [if_pos hc] at h3; simpa using h3
  · rw [if_neg hc] at h3; simpa using h3
theorem chE_dom {n k : Int} (h : chE n k = 0) : ∃ N K : Nat, n = N ∧ k = K ∧ N ≤ 60 ∧ K ≤ N ∧ chooseN N K ≤ 1000000000000 ∧ chV n k = chooseN N K := by
  unfold chE at h
  by_cases hc : chOk n k = true
  · rw [if_pos hc] at h
    have hc' := hc
    unfold chOk at hc
    rw [Bool.and_eq_true] at hc
    obtain ⟨n0, n1⟩ := inB_true.1 hc.1
    obtain ⟨k0, k1⟩ := inB_true.1 hc.2
    have hb : ¬ (1000000000000 : Int) < (chooseN n.toNat k.toNat : Int) := by
      intro hlt
      unfold resC at h
      rw [if_pos hlt] at h
      cases h
    refine ⟨n.toNat, k.toNat, by omega, by omega, by omega, by omega, by omega, ?_⟩
    unfold chV
    rw [if_pos hc']
    unfold resV
    rw [if_neg hb]
  · rw [if_neg hc] at h
    cases h
theorem ch_of {N K : Nat} (hN : N ≤ 60) (hK : K ≤ N) (hb : chooseN N K ≤ 1000000000000) : chV N K = chooseN N K ∧ chE N K = 0 := by
  have hc : chOk N K = true := by
    unfold chOk
    rw [Bool.and_eq_true]
    exact ⟨inB_true.2 ⟨by omega, by omega⟩, inB_true.2 ⟨by omega, by omega⟩⟩
  have hb' : ¬ (1000000000000 : Int) < (chooseN (N : Int).toNat (K : Int).toNat : Int) := by
    rw [Int.toNat_natCast, Int.toNat_natCast]; omega
  constructor
  · unfold chV; rw [if_pos hc]; unfold resV; rw [if_neg hb', Int.toNat_natCast, Int.toNat_natCast]
  · unfold chE; rw [if_pos hc]; unfold resC; rw [if_neg hb']
theorem ch_edge {n k : Int} (h : chE n k = 0) (hk : k = 0 ∨ k = n) : chV n k = 1 := by
  obtain ⟨N, K, rfl, rfl, h1, h2, h3, h4⟩ := chE_dom h
  rw [h4, (pascal_row h1 h2).1 (by omega)]
  rfl
theorem ch_mid {n k : Int} (h : chE n k = 0) (hk : ¬ k = 0) (hk2 : ¬ k = n) : chE (n - 1) (k - 1) = 0 ∧ chE (n - 1) k = 0 ∧ chV n k = chV (n - 1) (k - 1) + chV (n - 1) k ∧ chE n (n - k) = 0 ∧ chV n (n - k) = chV n k ∧
    0 ≤ chV (n - 1) (k - 1) ∧ chV (n - 1) (k - 1) ≤ 1000000000000 ∧ 0 ≤ chV (n - 1) k ∧ chV (n - 1) k ≤ 1000000000000 ∧ 1 ≤ n ∧ n ≤ 60 ∧ 1 ≤ k ∧ k ≤ 60 := by
  obtain ⟨N, K, rfl, rfl, h1, h2, h3, h4⟩ := chE_dom h
  obtain ⟨_, p2, p3⟩ := pascal_row h1 h2
  have p2 := p2 (by omega)
  obtain ⟨a1, a2⟩ := ch_of (N := N - 1) (K := K - 1) (by omega) (by omega) (by omega)
  obtain ⟨b1, b2⟩ := ch_of (N := N - 1) (K := K) (by omega) (by omega) (by omega)
  obtain ⟨c1, c2⟩ := ch_of (N := N) (K := N - K) (by omega) (by omega) (by omega)
  have e1 : (N : Int) - 1 = ((N - 1 : Nat) : Int) := by omega
  have e2 : (K : Int) - 1 = ((K - 1 : Nat) : Int) := by omega
  have e3 : (N : Int) - K = ((N - K : Nat) : Int) := by omega
  rw [e1, e2, e3, h4, a1, a2, b1, b2, c1, c2]
  omega

end Go.Proofs.Ytnonmjllopcaeaa
