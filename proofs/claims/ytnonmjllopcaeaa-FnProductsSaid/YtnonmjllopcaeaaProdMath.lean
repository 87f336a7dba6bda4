/- Plain mathematics of the law of products: a product that is cut at the limit does not depend on the order; a power is one factor more than the power before it. -/
import Derived.Test.YtnonmjllopcaeaaProd
import Derived.Test.YtnonmjllopcaeaaPow
namespace Go.Proofs.Ytnonmjllopcaeaa

def cutP (p : Int) : Int := if 1000000000000 < p then 1000000000001 else p
def mulP (xs : List Int) : Int := xs.foldr (fun v p => v * p) 1
theorem mulP_append (xs ys : List Int) : mulP (xs ++ ys) = mulP xs * mulP ys := by
  induction xs with
  | nil => simp [mulP]
  | cons x xs ih =>
    have e : mulP (x :: xs ++ ys) = x * mulP (xs ++ ys) := rfl
    have e2 : mulP (x :: xs) = x * mulP xs := rfl
    rw [e, e2, ih, Int.mul_assoc]
theorem mulP_turn (xs : List Int) (k : Nat) : mulP (xs.drop k ++ xs.take k) = mulP xs := by
  rw [mulP_append, Int.mul_comm, ← mulP_append, List.take_append_drop]
theorem mulP_nonneg {xs : List Int} (h : ∀ v ∈ xs, 0 ≤ v) : 0 ≤ mulP xs := by
  induction xs with
  | nil => decide
  | cons x xs ih =>
    show 0 ≤ x * mulP xs
    exact Int.mul_nonneg (h x (by simp)) (ih fun v hv => h v (by simp [hv]))
theorem cut_mul {a v : Int} (ha : 0 ≤ a) (hv : 0 ≤ v) : capM (cutP a) v = cutP (a * v) := by
  unfold capM cutP
  by_cases h : 1000000000000 < a
  · rw [if_pos h]
    by_cases hz : v = 0
    · subst hz; simp
    · have h1 : 1000000000001 * 1 ≤ 1000000000001 * v := Int.mul_le_mul_of_nonneg_left (by omega) (by omega)
      have h2 : a * 1 ≤ a * v := Int.mul_le_mul_of_nonneg_left (by omega) ha
      rw [if_pos (by omega), if_pos (by omega)]
  · rw [if_neg h]
theorem fold_cut (xs : List Int) (a : Int) (ha : 0 ≤ a) (h : ∀ v ∈ xs, 0 ≤ v) : xs.foldl capM (cutP a) = cutP (a * mulP xs) := by
  induction xs generalizing a with
  | nil => simp [mulP]
  | cons x xs ih =>
    have hx := h x (by simp)
    rw [List.foldl_cons, cut_mul ha hx, ih _ (Int.mul_nonneg ha hx) (fun v hv => h v (by simp [hv]))]
    have e : mulP (x :: xs) = x * mulP xs := rfl
    rw [e, Int.mul_assoc]
theorem prodC_cut {xs : List Int} (h : ∀ v ∈ xs, 0 ≤ v) : prodC xs = cutP (mulP xs) := by
  have := fold_cut xs 1 (by decide) h
  rw [Int.one_mul] at this
  exact this
theorem turned_with {lo hi : Int} {xs : List Int} (h : withB lo hi xs = true) (k : Nat) : withB lo hi (xs.drop k ++ xs.take k) = true := by
  obtain ⟨h1, h2⟩ := withB_true h
  unfold withB allIn
  rw [Bool.and_eq_true, decide_eq_true_iff, List.all_eq_true]
  refine ⟨by rw [List.length_append, List.length_drop, List.length_take]; omega, fun v hv => ?_⟩
  rw [List.mem_append] at hv
  refine List.all_eq_true.1 h2 v ?_
  rcases hv with hv | hv
  · exact List.mem_of_mem_drop hv
  · exact List.mem_of_mem_take hv
theorem turned_prod {xs : List Int} (h : prodE xs = 0) (k : Nat) : prodV (xs.drop k ++ xs.take k) = prodV xs ∧ prodE (xs.drop k ++ xs.take k) = 0 := by
  have hw : withB 0 1000000000000 xs = true := by
    rcases hb : withB 0 1000000000000 xs with _ | _
    · rw [(prod_no hb).2] at h; cases h
    · rfl
  have hp : ∀ v ∈ xs, 0 ≤ v := fun v hv => (inB_true.1 (List.all_eq_true.1 (withB_true hw).2 v hv)).1
  have hp2 : ∀ v ∈ xs.drop k ++ xs.take k, 0 ≤ v := fun v hv => by
    rw [List.mem_append] at hv
    rcases hv with hv | hv
    · exact hp v (List.mem_of_mem_drop hv)
    · exact hp v (List.mem_of_mem_take hv)
  have e : prodC (xs.drop k ++ xs.take k) = prodC xs := by rw [prodC_cut hp2, prodC_cut hp, mulP_turn]
  obtain ⟨a1, a2⟩ := prod_yes hw
  obtain ⟨b1, b2⟩ := prod_yes (turned_with hw k)
  rw [b1, b2, a1, e, ← a2]
  exact ⟨rfl, h⟩
theorem pow_less {a b : Int} (h : powE a b = 0) (hb : 0 < b) (ha : 0 < a) : powE a (b - 1) = 0 ∧ powV a (b - 1) * a = powV a b ∧ 0 ≤ powV a (b - 1) ∧ powV a (b - 1) ≤ 1000000000000 ∧ powV a (b - 1) * a ≤ 1000000000000 ∧ 0 ≤ powV a (b - 1) * a ∧ a ≤ 1000000000000 := by
  rcases h1 : inB a 0 1000000000000 with _ | _
  · rw [(pow_no (x := b) (.inl h1)).2] at h; cases h
  rcases h2 : inB b 0 60 with _ | _
  · rw [(pow_no (b := a) (.inr h2)).2] at h; cases h
  obtain ⟨c1, c2⟩ := inB_true.1 h1
  obtain ⟨d1, d2⟩ := inB_true.1 h2
  have h3 : inB (b - 1) 0 60 = true := inB_true.2 ⟨by omega, by omega⟩
  obtain ⟨e1, e2⟩ := pow_yes h1 h2
  obtain ⟨f1, f2⟩ := pow_yes h1 h3
  obtain ⟨n, hn⟩ := Int.eq_ofNat_of_zero_le (show 0 ≤ b - 1 by omega)
  obtain rfl : b = (n : Int) + 1 := by omega
  have en : ((n : Int) + 1).toNat = n + 1 := by omega
  have em : ((n : Int) + 1 - 1).toNat = n := by omega
  clear hn
  rw [e1, f1, f2]
  rw [e2] at h
  rw [en] at h ⊢
  rw [em]
  have hn := powC_range (b := a) (by omega) n
  have hs : powC a (n + 1) = capM (powC a n) a := rfl
  have hle : ¬ (1000000000000 : Int) < powC a (n + 1) := by
    intro hlt; unfold resC at h; rw [if_pos hlt] at h; cases h
  have hc : ¬ (1000000000000 : Int) < powC a n * a := by
    intro hlt
    rw [hs] at hle
    unfold capM at hle
    rw [if_pos hlt] at hle
    omega
  have hq : powC a (n + 1) = powC a n * a := by rw [hs]; unfold capM; rw [if_neg hc]
  have hm : powC a n * 1 ≤ powC a n * a := Int.mul_le_mul_of_nonneg_left (by omega) hn.1
  have hm0 := Int.mul_nonneg hn.1 (show 0 ≤ a by omega)
  have g1 : resC (powC a n) = 0 := by unfold resC; rw [if_neg (by omega)]
  have g2 : resV (powC a n) = powC a n := by unfold resV; rw [if_neg (by omega)]
  have g3 : resV (powC a (n + 1)) = powC a (n + 1) := by unfold resV; rw [if_neg hle]
  rw [g1, g2, g3, hq]
  exact ⟨rfl, rfl, hn.1, by omega, by omega, hm0, c2⟩

end Go.Proofs.Ytnonmjllopcaeaa
