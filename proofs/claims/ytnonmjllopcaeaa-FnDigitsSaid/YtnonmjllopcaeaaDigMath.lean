/- Plain mathematics of the law of digits: a number is recovered from its digits, and digits from their number. -/
import Derived.Test.YtnonmjllopcaeaaDigs
namespace Go.Proofs.Ytnonmjllopcaeaa

def cutN (p : Int) : Int := if 1000000000000 < p then 1000000000001 else p
/-- what the first k digits tell, without a limit -/
def pre (ds bs : List Int) : Nat → Int
  | 0 => 0
  | k + 1 => pre ds bs k * bs.getD k 1 + ds.getD k 0
theorem base_at {bs : List Int} {k : Nat} (h : allIn 1 100 bs = true) (hk : k < bs.length) : bs[k]? = some (bs.getD k 1) ∧ 1 ≤ bs.getD k 1 ∧ bs.getD k 1 ≤ 100 := by
  have hv : bs[k]? = some bs[k] := List.getElem?_eq_getElem hk
  have e : bs.getD k 1 = bs[k] := by rw [List.getD_eq_getElem?_getD, hv]; rfl
  rw [e]
  exact ⟨hv, allIn_at h hv⟩
theorem dig_at {ds bs : List Int} {k : Nat} (hd : digsB (ds.zip bs) = true) (h : allIn 1 100 bs = true) (hl : ds.length = bs.length) (hk : k < bs.length) : ds[k]? = some (ds.getD k 0) ∧ 0 ≤ ds.getD k 0 ∧ ds.getD k 0 ≤ bs.getD k 1 - 1 := by
  have hv : ds[k]? = some (ds[k]'(by omega)) := List.getElem?_eq_getElem (by omega)
  have e : ds.getD k 0 = ds[k]'(by omega) := by rw [List.getD_eq_getElem?_getD, hv]; rfl
  rw [e]
  exact ⟨hv, digs_at hd hv (base_at h hk).1⟩
theorem pre_nonneg {ds bs : List Int} (hd : digsB (ds.zip bs) = true) (h : allIn 1 100 bs = true) (hl : ds.length = bs.length) (k : Nat) (hk : k ≤ bs.length) : 0 ≤ pre ds bs k := by
  induction k with
  | zero => exact Int.le_refl _
  | succ k ih =>
    have hi := ih (by omega)
    obtain ⟨_, b0, _⟩ := base_at h (show k < bs.length by omega)
    obtain ⟨_, d0, _⟩ := dig_at hd h hl (show k < bs.length by omega)
    show 0 ≤ pre ds bs k * bs.getD k 1 + ds.getD k 0
    have := Int.mul_nonneg hi (show 0 ≤ bs.getD k 1 by omega)
    omega
theorem num_pre {ds bs : List Int} (hd : digsB (ds.zip bs) = true) (h : allIn 1 100 bs = true) (hl : ds.length = bs.length) (k : Nat) (hk : k ≤ bs.length) : numC ((ds.zip bs).take k) = cutN (pre ds bs k) := by
  induction k with
  | zero => rfl
  | succ k ih =>
    have hi := ih (by omega)
    obtain ⟨hb, b0, b1⟩ := base_at h (show k < bs.length by omega)
    obtain ⟨hv, d0, d1⟩ := dig_at hd h hl (show k < bs.length by omega)
    have p0 := pre_nonneg hd h hl k (by omega)
    rw [num_step hv hb, hi]
    show numStep (cutN (pre ds bs k)) (ds.getD k 0) (bs.getD k 1) = cutN (pre ds bs k * bs.getD k 1 + ds.getD k 0)
    generalize pre ds bs k = p at *
    generalize bs.getD k 1 = b at *
    generalize ds.getD k 0 = d at *
    unfold numStep cutN
    have hm : p * 1 ≤ p * b := Int.mul_le_mul_of_nonneg_left b0 p0
    by_cases hp : 1000000000000 < p
    · have hc : (1000000000001 : Int) * 1 ≤ 1000000000001 * b := Int.mul_le_mul_of_nonneg_left b0 (by decide)
      rw [if_pos hp, if_pos (show (1000000000000 : Int) < p * b + d by omega)]
      split <;> omega
    · rw [if_neg hp]
      split <;> split <;> omega
theorem quo_pre {ds bs : List Int} (hd : digsB (ds.zip bs) = true) (h : allIn 1 100 bs = true) (hl : ds.length = bs.length) (j : Nat) (hj : j ≤ bs.length) : quo bs (pre ds bs bs.length) j = pre ds bs (bs.length - j) := by
  induction j with
  | zero => rfl
  | succ j ih =>
    have hi := ih (by omega)
    show quo bs (pre ds bs bs.length) j / bs.getD (bs.length - 1 - j) 1 = _
    rw [hi, show bs.length - j = (bs.length - 1 - j) + 1 by omega, show bs.length - (j + 1) = bs.length - 1 - j by omega]
    obtain ⟨_, b0, _⟩ := base_at h (show bs.length - 1 - j < bs.length by omega)
    obtain ⟨_, d0, d1⟩ := dig_at hd h hl (show bs.length - 1 - j < bs.length by omega)
    show (pre ds bs (bs.length - 1 - j) * bs.getD (bs.length - 1 - j) 1 + ds.getD (bs.length - 1 - j) 0) / bs.getD (bs.length - 1 - j) 1 = _
    rw [Int.add_comm, Int.add_mul_ediv_right _ _ (by omega), Int.ediv_eq_zero_of_lt d0 (by omega), Int.zero_add]
theorem digits_pre {ds bs : List Int} (hd : digsB (ds.zip bs) = true) (h : allIn 1 100 bs = true) (hl : ds.length = bs.length) : digits bs (pre ds bs bs.length) = ds := by
  apply List.ext_getElem?
  intro i
  unfold digits
  rw [List.getElem?_map]
  by_cases hi : i < bs.length
  · rw [List.getElem?_range hi]
    obtain ⟨_, b0, _⟩ := base_at h hi
    obtain ⟨hv, d0, d1⟩ := dig_at hd h hl hi
    rw [hv]
    show some (digit bs (pre ds bs bs.length) i) = _
    unfold digit
    rw [quo_pre hd h hl _ (by omega), show bs.length - (bs.length - 1 - i) = i + 1 by omega]
    show some ((pre ds bs i * bs.getD i 1 + ds.getD i 0) % bs.getD i 1) = _
    rw [Int.add_comm, Int.add_mul_emod_self_right, Int.emod_eq_of_lt d0 (by omega)]
  · rw [List.getElem?_eq_none (by simp; omega), List.getElem?_eq_none (by omega)]
    rfl
theorem num_ok {ds bs : List Int} (h : numE ds bs = 0) : withB 1 100 bs = true ∧ ds.length = bs.length ∧ digsB (ds.zip bs) = true ∧ numC (ds.zip bs) ≤ 1000000000000 ∧ numV ds bs = numC (ds.zip bs) := by
  unfold numE at h
  by_cases hc : numOk ds bs = true
  · rw [if_pos hc] at h
    have hb : ¬ (1000000000000 : Int) < numC (ds.zip bs) := by
      intro hlt; unfold resC at h; rw [if_pos hlt] at h; cases h
    have hc' := hc
    unfold numOk at hc
    rw [Bool.and_eq_true, Bool.and_eq_true, decide_eq_true_iff] at hc
    refine ⟨hc.1.1, hc.1.2, hc.2, by omega, ?_⟩
    unfold numV
    rw [if_pos hc']
    unfold resV
    rw [if_neg hb]
  · rw [if_neg hc] at h; cases h
/-- digits are recovered from their number -/
theorem digits_back {ds bs : List Int} (h : numE ds bs = 0) : digE (numV ds bs) bs = 0 ∧ digL (numV ds bs) bs = ds := by
  obtain ⟨h1, h2, h3, h4, h5⟩ := num_ok h
  have ha := (withB_true h1).2
  have hz : (ds.zip bs).take bs.length = ds.zip bs := List.take_of_length_le (by rw [List.length_zip]; omega)
  have hp : numC (ds.zip bs) = cutN (pre ds bs bs.length) := by
    have := num_pre h3 ha h2 bs.length (Nat.le_refl _)
    rwa [hz] at this
  have p0 := pre_nonneg h3 ha h2 bs.length (Nat.le_refl _)
  have hn : numV ds bs = pre ds bs bs.length := by
    rw [h5, hp]
    rw [hp] at h4
    unfold cutN at h4 ⊢
    split at h4
    · omega
    · rw [if_neg (by assumption)]
  have hq := quo_pre h3 ha h2 bs.length (Nat.le_refl _)
  rw [Nat.sub_self] at hq
  rw [hn]
  have hle : pre ds bs bs.length ≤ 1000000000000 := by rw [← hn, h5]; exact h4
  obtain ⟨e1, e2⟩ := dig_yes (inB_true.2 ⟨p0, hle⟩) h1 (by rw [hq]; exact Int.lt_irrefl _)
  rw [e1, e2]
  exact ⟨rfl, digits_pre h3 ha h2⟩
theorem dig_ok {m : Int} {bs : List Int} (h : digE m bs = 0) : 0 ≤ m ∧ m ≤ 1000000000000 ∧ withB 1 100 bs = true ∧ quo bs m bs.length = 0 ∧ digL m bs = digits bs m := by
  unfold digE at h
  by_cases hc : digOk m bs = true
  · have hc' := hc
    unfold digOk at hc
    rw [Bool.and_eq_true, Bool.and_eq_true, decide_eq_true_iff] at hc
    obtain ⟨a, b⟩ := inB_true.1 hc.1.1
    have := (quo_range a b (withB_true hc.1.2).2 bs.length (Nat.le_refl _)).1
    refine ⟨a, b, hc.1.2, by omega, ?_⟩
    unfold digL
    rw [if_pos hc']
  · rw [if_neg hc] at h; cases h
theorem pre_digits {m : Int} {bs : List Int} (h0 : quo bs m bs.length = 0) (k : Nat) (hk : k ≤ bs.length) : pre (digits bs m) bs k = quo bs m (bs.length - k) := by
  induction k with
  | zero => exact h0.symm
  | succ k ih =>
    have hi := ih (by omega)
    show pre (digits bs m) bs k * bs.getD k 1 + (digits bs m).getD k 0 = _
    have e : (digits bs m).getD k 0 = digit bs m k := by
      unfold digits
      rw [List.getD_eq_getElem?_getD, List.getElem?_map, List.getElem?_range (by omega)]
      rfl
    rw [hi, e, show bs.length - k = (bs.length - (k + 1)) + 1 by omega]
    show quo bs m (bs.length - (k + 1)) / bs.getD (bs.length - 1 - (bs.length - (k + 1))) 1 * bs.getD k 1 + quo bs m (bs.length - 1 - k) % bs.getD k 1 = _
    rw [show bs.length - 1 - (bs.length - (k + 1)) = k by omega, show bs.length - 1 - k = bs.length - (k + 1) by omega]
    exact Int.ediv_mul_add_emod _ _
/-- a number is recovered from its digits -/
theorem number_back {m : Int} {bs : List Int} (h : digE m bs = 0) : numE (digL m bs) bs = 0 ∧ numV (digL m bs) bs = m := by
  obtain ⟨m0, m1, hw, hq, hd⟩ := dig_ok h
  have ha := (withB_true hw).2
  have hl := digits_len bs m
  have hdg : digsB ((digits bs m).zip bs) = true := by
    unfold digsB
    rw [List.all_eq_true]
    intro p hp
    obtain ⟨i, hi, rfl⟩ := List.getElem_of_mem hp
    rw [List.length_zip] at hi
    obtain ⟨hb, b0, _⟩ := base_at ha (show i < bs.length by omega)
    rw [List.getElem_zip]
    have e : (digits bs m)[i]'(by omega) = digit bs m i := by simp [digits]
    have e2 : bs[i]'(by omega) = bs.getD i 1 := by
      rw [List.getElem?_eq_getElem (by omega)] at hb
      exact Option.some.inj hb
    rw [e, e2]
    refine inB_true.2 ⟨Int.emod_nonneg _ (by omega), ?_⟩
    have := Int.emod_lt_of_pos (quo bs m (bs.length - 1 - i)) (show 0 < bs.getD i 1 by omega)
    show quo bs m (bs.length - 1 - i) % bs.getD i 1 ≤ bs.getD i 1 - 1
    omega
  have hz : ((digits bs m).zip bs).take bs.length = (digits bs m).zip bs := List.take_of_length_le (by rw [List.length_zip]; omega)
  have hp : numC ((digits bs m).zip bs) = m := by
    have := num_pre hdg ha hl bs.length (Nat.le_refl _)
    rw [hz, pre_digits hq bs.length (Nat.le_refl _), Nat.sub_self] at this
    rw [this]
    show cutN m = m
    unfold cutN
    rw [if_neg (by omega)]
  obtain ⟨e1, e2⟩ := num_yes hw hl hdg
  rw [hd, e1, e2, hp]
  unfold resC resV
  rw [if_neg (by omega), if_neg (by omega)]
  exact ⟨rfl, rfl⟩

end Go.Proofs.Ytnonmjllopcaeaa
