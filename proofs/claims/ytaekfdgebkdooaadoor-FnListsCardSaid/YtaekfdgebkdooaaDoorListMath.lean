/- Plain mathematics of the law of lists: a list is recovered from its text, and a text from its list. -/
import Derived.Test.YtaekfdgebkdooaaDoorParse2
namespace Go.Proofs.YtaekfdgebkdooaaDoor

theorem txt_cons {x : Int} {r : List Int} (h : 0 ≤ x) (hr : r ≠ []) : txtL (x :: r) = Lib.decDigits x.toNat ++ 44 :: txtL r := by
  cases r with
  | nil => exact absurd rfl hr
  | cons y r =>
    unfold txtL
    rw [List.map_cons, List.map_cons, Lib.join_cons, Lib.join_cons, itoa_nat h]
    simp [Lib.joinTail]
theorem txt_one {x : Int} (h : 0 ≤ x) : txtL [x] = Lib.decDigits x.toNat := by
  unfold txtL
  rw [← itoa_nat h]
  exact Lib.join_one _ _
theorem dec_nocomma (n : Nat) : ∀ c ∈ Lib.decDigits n, c ≠ 44 := by
  intro c hc e
  have h := List.all_eq_true.1 (dec_props n).1 c hc
  subst e
  exact absurd h (by decide)
theorem cut_txt : ∀ (xs : List Int), xs ≠ [] → (∀ v ∈ xs, 0 ≤ v) → cutL 44 (txtL xs) = xs.map (fun v => Lib.decDigits v.toNat)
  | [], h, _ => absurd rfl h
  | [x], _, hp => by
    have hx := hp x (by simp)
    rw [txt_one hx, cutL_none _ _ (dec_nocomma _)]
    rfl
  | x :: y :: r, _, hp => by
    have hx := hp x (by simp)
    rw [txt_cons hx (by simp), cutL_hit _ _ _ (dec_nocomma _), cut_txt (y :: r) (by simp) (fun v hv => hp v (by simp at hv ⊢; right; exact hv))]
    rfl
theorem txt_dash {xs : List Int} (h : xs ≠ []) (hp : ∀ v ∈ xs, 0 ≤ v) : txtL xs ≠ [45] := by
  intro e
  have hc := cut_txt xs h hp
  rw [e] at hc
  have h1 : cutL 44 [45] = [[45]] := cutL_none _ _ (by intro c hc; simp at hc; subst hc; decide)
  rw [h1] at hc
  cases xs with
  | nil => exact h rfl
  | cons x r =>
    rw [List.map_cons] at hc
    injection hc with h2 _
    have h3 := List.all_eq_true.1 (dec_props x.toNat).1 45 (by rw [← h2]; simp)
    exact absurd h3 (by decide)
/-- a list is recovered from its text -/
theorem list_back {xs : List Int} (h : listE xs = 0) : codeL (listT xs) = 0 ∧ outL (listT xs) = xs := by
  have hw : withB 0 1000000000000 xs = true := by
    rcases hb : withB 0 1000000000000 xs with _ | _
    · rw [(list_no hb).2] at h; cases h
    · rfl
  by_cases h0 : xs.length = 0
  · rw [(list_none hw h0).1]
    obtain rfl := List.eq_nil_of_length_eq_zero h0
    decide
  · rw [(list_some hw h0).1]
    obtain ⟨hl, ha⟩ := withB_true hw
    have hne : xs ≠ [] := by intro e; subst e; exact h0 rfl
    have hp : ∀ v ∈ xs, 0 ≤ v := fun v hv => (inB_true.1 (List.all_eq_true.1 ha v hv)).1
    have hc := cut_txt xs hne hp
    have hd := txt_dash hne hp
    have hall : ∀ v ∈ xs, rdM (Lib.decDigits v.toNat) = true ∧ valD (Lib.decDigits v.toNat) = v.toNat := fun v hv => by
      have := (inB_true.1 (List.all_eq_true.1 ha v hv)).2
      exact rdM_of_text (by omega) rfl
    have h1 : allM (cutL 44 (txtL xs)) = true := by
      rw [hc]
      unfold allM
      rw [List.all_eq_true]
      intro u hu
      obtain ⟨v, hv, rfl⟩ := List.mem_map.1 hu
      exact (hall v hv).1
    obtain ⟨e1, e2⟩ := words_ok hd h1 (by rw [hc, List.length_map]; exact hl)
    rw [e1, e2, hc]
    refine ⟨rfl, ?_⟩
    unfold vals
    rw [List.map_map]
    have : xs.map ((fun w => (valD w : Int)) ∘ fun v => Lib.decDigits v.toNat) = xs.map id := by
      apply List.map_congr_left
      intro v hv
      have := hp v hv
      simp only [Function.comp, (hall v hv).2, id]
      omega
    rw [this, List.map_id]
theorem comma_split (b : UInt8) : ∀ (l : List UInt8), (∀ c ∈ l, c ≠ b) ∨ ∃ p r, l = p ++ b :: r ∧ ∀ c ∈ p, c ≠ b
  | [] => .inl (fun c hc => by cases hc)
  | c :: l => by
    by_cases h : c = b
    · subst h
      exact .inr ⟨[], l, rfl, fun c hc => by cases hc⟩
    · rcases comma_split b l with h1 | ⟨p, r, rfl, h2⟩
      · refine .inl (fun d hd => ?_)
        rcases List.mem_cons.1 hd with e | hd
        · rw [e]; exact h
        · exact h1 d hd
      · refine .inr ⟨c :: p, r, rfl, fun d hd => ?_⟩
        rcases List.mem_cons.1 hd with e | hd
        · rw [e]; exact h
        · exact h2 d hd
theorem cutL_ne (b : UInt8) (l : List UInt8) : cutL b l ≠ [] := by unfold cutL; simp
theorem join_cut (b : UInt8) : ∀ (n : Nat) (l : List UInt8), l.length ≤ n → Lib.join (cutL b l) [b] = l
  | 0, l, h => by
    obtain rfl := List.eq_nil_of_length_eq_zero (Nat.le_zero.1 h)
    rfl
  | n + 1, l, h => by
    rcases comma_split b l with h1 | ⟨p, r, rfl, h2⟩
    · rw [cutL_none b l h1]; exact Lib.join_one _ _
    · rw [cutL_hit b p r h2]
      have ih := join_cut b n r (by simp at h; omega)
      rcases hr : cutL b r with _ | ⟨q, t⟩
      · exact absurd hr (cutL_ne b r)
      · rw [hr] at ih
        rw [← ih, Lib.join_cons, Lib.join_cons]
        simp [Lib.joinTail]
/-- a text is recovered from its list -/
theorem text_back {l : List UInt8} (h : codeL l = 0) : listE (outL l) = 0 ∧ listT (outL l) = l := by
  by_cases hd : l = [45]
  · subst hd; decide
  · have hok : okL l = true := by
      rcases ho : okL l with _ | _
      · unfold codeL at h; rw [ho] at h; cases h
      · rfl
    have hw := ok_words hd
    rw [hok] at hw
    have hw := hw.symm
    rw [Bool.and_eq_true, decide_eq_true_iff] at hw
    obtain ⟨e1, _⟩ := words_ok hd hw.1 hw.2
    have hin : allIn 0 1000000000000 (vals (cutL 44 l)) = true := by
      have := hw.1
      rw [allM_split, Bool.and_eq_true] at this
      exact this.2
    have hlen : (vals (cutL 44 l)).length = (cutL 44 l).length := by simp [vals]
    have hwb : withB 0 1000000000000 (vals (cutL 44 l)) = true := by rw [withB_short rfl (by rw [hlen]; exact hw.2)]; exact hin
    have hne : (vals (cutL 44 l)).length ≠ 0 := by
      rw [hlen]
      intro e
      exact cutL_ne 44 l (List.eq_nil_of_length_eq_zero e)
    obtain ⟨f1, f2⟩ := list_some hwb hne
    rw [e1, f1, f2]
    refine ⟨rfl, ?_⟩
    unfold txtL vals
    rw [List.map_map]
    have : (cutL 44 l).map (Lib.itoa ∘ fun w => (valD w : Int)) = (cutL 44 l).map id := by
      apply List.map_congr_left
      intro u hu
      have hm := List.all_eq_true.1 hw.1 u hu
      have := (rdM_parse hm).2.2
      simp only [Function.comp, id]
      rw [itoa_nat (Int.natCast_nonneg _)]
      exact this
    rw [this, List.map_id]
    exact join_cut 44 l.length l (Nat.le_refl _)

end Go.Proofs.YtaekfdgebkdooaaDoor
