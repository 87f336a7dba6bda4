/- Texts of buildings read back: the plain functions. -/
import Derived.Test.YtgbicepneonkfaaDoorBldT
import Derived.Test.YtgbicepneonkfaaDoorParse
namespace Go.Proofs.YtgbicepneonkfaaDoor
open Go Go.RowKit

theorem join_more (b : UInt8) (p : List UInt8) {xs : List (List UInt8)} (h : xs ≠ []) : Lib.join (p :: xs) [b] = p ++ b :: Lib.join xs [b] := by
  rcases xs with _ | ⟨y, r⟩
  · exact absurd rfl h
  · rw [Lib.join_cons, Lib.join_cons]
    unfold Lib.joinTail
    simp
theorem cut_ne (b : UInt8) (l : List UInt8) : cutL b l ≠ [] := by unfold cutL; simp
theorem cut_cases (b : UInt8) (l : List UInt8) : (∀ c ∈ l, c ≠ b) ∨ ∃ p r, l = p ++ b :: r ∧ ∀ c ∈ p, c ≠ b := by
  by_cases h : b ∈ l
  · obtain ⟨p, r, e, hn⟩ := List.eq_append_cons_of_mem h
    exact .inr ⟨p, r, e, fun c hc e => hn (e ▸ hc)⟩
  · exact .inl fun c hc e => h (e ▸ hc)
theorem join_cut (b : UInt8) : ∀ (n : Nat) (l : List UInt8), l.length ≤ n → Lib.join (cutL b l) [b] = l := by
  intro n
  induction n with
  | zero =>
    intro l h
    rw [cutL_none b l (by intro c hc; have := List.length_pos_of_mem hc; omega), Lib.join_one]
  | succ n ih =>
    intro l h
    rcases cut_cases b l with h0 | ⟨p, r, rfl, hp⟩
    · rw [cutL_none b l h0, Lib.join_one]
    · rw [cutL_hit b p r hp, join_more b p (cut_ne b r), ih r (by rw [List.length_append, List.length_cons] at h; omega)]
theorem cut_join (b : UInt8) : ∀ (ws : List (List UInt8)), ws ≠ [] → (∀ w ∈ ws, ∀ c ∈ w, c ≠ b) → cutL b (Lib.join ws [b]) = ws := by
  intro ws
  induction ws with
  | nil => intro h; exact absurd rfl h
  | cons p r ih =>
    intro _ h
    by_cases hr : r = []
    · subst hr
      rw [Lib.join_one, cutL_none b p (h p (List.mem_cons_self ..))]
    · rw [join_more b p hr, cutL_hit b p _ (h p (List.mem_cons_self ..)), ih hr fun w hw => h w (List.mem_cons_of_mem _ hw)]
theorem cut_three (b : UInt8) : ∀ (n : Nat) (l : List UInt8), l.length ≤ n → (∀ w ∈ cutL b l, 2 ≤ w.length) → 3 * (cutL b l).length ≤ l.length + 1 := by
  intro n
  induction n with
  | zero =>
    intro l h hw
    rw [cutL_none b l (by intro c hc; have := List.length_pos_of_mem hc; omega)] at hw ⊢
    have := hw l (List.mem_cons_self ..)
    simp; omega
  | succ n ih =>
    intro l h hw
    rcases cut_cases b l with h0 | ⟨p, r, rfl, hp⟩
    · rw [cutL_none b l h0] at hw ⊢
      have := hw l (List.mem_cons_self ..)
      simp; omega
    · rw [cutL_hit b p r hp] at hw ⊢
      have h1 := hw p (List.mem_cons_self ..)
      rw [List.length_append, List.length_cons] at h
      have := ih r (by omega) fun w hw' => hw w (List.mem_cons_of_mem _ hw')
      rw [List.length_append, List.length_cons, List.length_cons]
      omega
theorem cut_len (b : UInt8) : ∀ (n : Nat) (l : List UInt8), l.length ≤ n → ∀ w ∈ cutL b l, w.length ≤ l.length := by
  intro n
  induction n with
  | zero =>
    intro l h w hw
    rw [cutL_none b l (by intro c hc; have := List.length_pos_of_mem hc; omega)] at hw
    rw [List.mem_singleton.1 hw]; exact Nat.le_refl _
  | succ n ih =>
    intro l h w hw
    rcases cut_cases b l with h0 | ⟨p, r, rfl, hp⟩
    · rw [cutL_none b l h0] at hw
      rw [List.mem_singleton.1 hw]; exact Nat.le_refl _
    · rw [cutL_hit b p r hp] at hw
      rw [List.length_append, List.length_cons] at h ⊢
      rcases List.mem_cons.1 hw with rfl | hw
      · omega
      · have := ih r (by omega) w hw; omega
theorem split_few (b : UInt8) : ∀ (m : Nat) (l : List UInt8), (l.count b ≤ m → Lib.splitK [b] 0 m l = cutL b l) ∧ (m < l.count b → (Lib.splitK [b] 0 m l).length = m + 1) := by
  intro m
  induction m with
  | zero =>
    intro l
    refine ⟨fun h => ?_, fun _ => rfl⟩
    have : b ∉ l := List.count_eq_zero.1 (by omega)
    rw [cutL_none b l fun c hc e => this (e ▸ hc)]
    rfl
  | succ m ih =>
    intro l
    rcases hi : Lib.indexByte l b with i | i
    · have hidx : Lib.index l [b] = (i : Int) := by rw [Lib.index_one]; exact hi
      obtain ⟨h1, h2⟩ := Lib.indexByte_some hi
      obtain ⟨hl, hb⟩ := List.getElem?_eq_some_iff.1 h1
      have hsplit : l = l.take i ++ b :: l.drop (i + 1) := by
        rw [← hb, List.getElem_cons_drop, List.take_append_drop]
      have hno : ∀ c ∈ l.take i, c ≠ b := by
        intro c hc e
        subst e
        obtain ⟨k, hk, e⟩ := List.getElem_of_mem hc
        rw [List.length_take] at hk
        rw [List.getElem_take] at e
        exact h2 k (by omega) (by rw [List.getElem?_eq_getElem (by omega), e])
      have h0 : (l.take i).count b = 0 := List.count_eq_zero.2 fun h => hno b h rfl
      have hcnt : l.count b = (l.drop (i + 1)).count b + 1 := by
        conv => lhs; rw [hsplit]
        rw [List.count_append, h0, List.count_cons_self]; omega
      have hm : ¬ (Lib.index l [b] == -1) = true := fun e => by have := beq_iff_eq.1 e; omega
      have he : Lib.splitK [b] 0 (m + 1) l = l.take i :: Lib.splitK [b] 0 m (l.drop (i + 1)) := by
        conv => lhs; unfold Lib.splitK
        rw [if_neg hm, hidx]
        simp
      rw [he, hcnt]
      refine ⟨fun h => ?_, fun h => ?_⟩
      · rw [(ih _).1 (by omega)]
        conv => rhs; rw [hsplit]
        rw [cutL_hit b _ _ hno]
      · rw [List.length_cons, (ih _).2 (by omega)]
    · have hge := Lib.indexByte_ge l b
      have hi' : Lib.indexByte l b = -1 := by rw [hi] at hge ⊢; omega
      have hidx : Lib.index l [b] = -1 := by rw [Lib.index_one]; exact hi'
      have hno : ∀ c ∈ l, c ≠ b := by
        intro c hc e
        subst e
        obtain ⟨k, hk⟩ := List.getElem?_of_mem hc
        exact Lib.indexByte_none hi' k hk
      have h0 : l.count b = 0 := List.count_eq_zero.2 fun h => hno b h rfl
      refine ⟨fun _ => ?_, fun h => by omega⟩
      rw [cutL_none b l hno]
      unfold Lib.splitK
      rw [if_pos (by rw [hidx]; rfl)]

/-- what a word says of its node -/
def wPar (w : List UInt8) : Int := valD w.dropLast
def wDor (w : List UInt8) : Bool := w.getLast? == some 100
def prK (L : List UInt8) (k : Nat) : List Int := -1 :: ((cutL 32 L).take k).map wPar
def drK (L : List UInt8) (k : Nat) : List Bool := false :: ((cutL 32 L).take k).map wDor
def nw (L : List UInt8) : Nat := (cutL 32 L).length
def prL (L : List UInt8) : List Int := prK L (nw L)
def drL (L : List UInt8) : List Bool := drK L (nw L)
def rdG (L : List UInt8) : Bool := bldB (prL L) (drL L) && decide (bldT (prL L) (drL L) (prL L).length = L)
def rdP (L : List UInt8) : List Int := if rdG L then prL L else []
def rdD (L : List UInt8) : List Bool := if rdG L then drL L else []
def rdC (L : List UInt8) : Int := if rdG L then 0 else 6
/-- a word of the right form -/
def goodW (w : List UInt8) : Bool := decide (2 ≤ w.length) && rdM w.dropLast && (w.getLast? == some 100 || w.getLast? == some 103)
theorem prK_len {L : List UInt8} {k : Nat} (h : k ≤ nw L) : (prK L k).length = k + 1 := by unfold prK; unfold nw at h; simp; omega
theorem drK_len {L : List UInt8} {k : Nat} (h : k ≤ nw L) : (drK L k).length = k + 1 := by unfold drK; unfold nw at h; simp; omega
theorem take_map_step {α β : Type} (f : α → β) {xs : List α} {k : Nat} {x : α} (h : xs[k]? = some x) : (xs.take (k + 1)).map f = (xs.take k).map f ++ [f x] := by
  obtain ⟨hk, e⟩ := List.getElem?_eq_some_iff.1 h
  rw [List.take_succ_eq_append_getElem hk, List.map_append, e]; rfl
theorem prK_succ {L : List UInt8} {k : Nat} {x : List UInt8} (h : (cutL 32 L)[k]? = some x) : prK L (k + 1) = prK L k ++ [wPar x] := by
  unfold prK; rw [take_map_step wPar h]; rfl
theorem drK_succ {L : List UInt8} {k : Nat} {x : List UInt8} (h : (cutL 32 L)[k]? = some x) : drK L (k + 1) = drK L k ++ [wDor x] := by
  unfold drK; rw [take_map_step wDor h]; rfl
theorem nw_pos (L : List UInt8) : 1 ≤ nw L := by unfold nw; have := cut_ne 32 L; exact List.length_pos_iff.2 this
theorem prL_len (L : List UInt8) : (prL L).length = nw L + 1 := prK_len (Nat.le_refl _)
theorem drL_len (L : List UInt8) : (drL L).length = nw L + 1 := drK_len (Nat.le_refl _)
theorem rd_no {L : List UInt8} (h : rdG L = false) : rdP L = [] ∧ rdD L = [] ∧ rdC L = 6 := by simp [rdP, rdD, rdC, h]
theorem rd_yes {L : List UInt8} (h : rdG L = true) : rdP L = prL L ∧ rdD L = drL L ∧ rdC L = 0 := by simp [rdP, rdD, rdC, h]
theorem word_form (P : List Int) (D : List Bool) (i : Nat) (h : par P i ≤ 99) : goodW (wordB P D i) = true ∧ ∀ c ∈ wordB P D i, c ≠ 32 := by
  obtain ⟨h1, h2, h3⟩ := dec_props (par P i).toNat
  obtain ⟨m1, _⟩ := rdM_of_text (n := (par P i).toNat) (by omega) rfl
  have hk : kindB D i = 100 ∨ kindB D i = 103 := by unfold kindB; split <;> simp
  refine ⟨?_, ?_⟩
  · unfold goodW wordB
    rw [List.dropLast_concat, m1, List.length_append]
    have : decide (2 ≤ (Lib.decDigits (par P i).toNat).length + [kindB D i].length) = true := decide_eq_true (by simp; omega)
    rw [this]
    rcases hk with e | e <;> rw [e] <;> simp
  · intro c hc e
    subst e
    unfold wordB at hc
    rcases List.mem_append.1 hc with h | h
    · have := List.all_eq_true.1 h1 32 h
      exact absurd this (by decide)
    · have := List.mem_singleton.1 h
      rcases hk with e | e <;> rw [e] at this <;> exact absurd this (by decide)
theorem rd_words {L : List UInt8} (h : rdG L = true) : (∀ w ∈ cutL 32 L, goodW w = true) ∧ nw L ≤ 23 := by
  unfold rdG at h
  rw [Bool.and_eq_true, decide_eq_true_eq] at h
  obtain ⟨hb, ht⟩ := h
  obtain ⟨hT, n2, n24, _, _⟩ := bld_tree hb
  have hl := prL_len L
  have hw : ∀ i, 1 ≤ i → i < (prL L).length → par (prL L) i ≤ 99 := fun i h1 hi => (par_small hT n24 h1 hi).2
  have hform : ∀ w ∈ wordsB (prL L) (drL L) (prL L).length, goodW w = true ∧ ∀ c ∈ w, c ≠ 32 := by
    intro w hwm
    unfold wordsB at hwm
    obtain ⟨j, hj, rfl⟩ := List.mem_map.1 hwm
    have := List.mem_range.1 hj
    exact word_form _ _ _ (hw (j + 1) (by omega) (by omega))
  have hne : wordsB (prL L) (drL L) (prL L).length ≠ [] := by
    intro e
    have := congrArg List.length e
    unfold wordsB at this
    simp at this
    omega
  have hc : cutL 32 L = wordsB (prL L) (drL L) (prL L).length := by
    conv => lhs; rw [← ht]
    unfold bldT
    exact cut_join 32 _ hne fun w h => (hform w h).2
  refine ⟨fun w h => (hform w (hc ▸ h)).1, by omega⟩
theorem good_parts {w : List UInt8} (h : goodW w = true) : 2 ≤ w.length ∧ rdM w.dropLast = true ∧ (w.getLast? = some 100 ∨ w.getLast? = some 103) := by
  unfold goodW at h
  simp only [Bool.and_eq_true, Bool.or_eq_true, decide_eq_true_eq, beq_iff_eq] at h
  exact ⟨h.1.1, h.1.2, h.2⟩
theorem rd_back {L : List UInt8} (hw : ∀ w ∈ cutL 32 L, goodW w = true) (hb : bldB (prL L) (drL L) = true) : rdG L = true := by
  unfold rdG
  rw [hb, Bool.true_and, decide_eq_true_eq]
  have hl := prL_len L
  have hc : wordsB (prL L) (drL L) (prL L).length = cutL 32 L := by
    apply List.ext_getElem?
    intro j
    unfold wordsB
    rw [hl, Nat.add_sub_cancel]
    by_cases hj : j < nw L
    · have hx : (cutL 32 L)[j]? = some (cutL 32 L)[j] := List.getElem?_eq_getElem hj
      obtain ⟨g1, g2, g3⟩ := good_parts (hw _ (List.getElem_mem hj))
      have e1 : par (prL L) (j + 1) = wPar (cutL 32 L)[j] := by
        unfold par prL prK nw
        rw [List.take_length, List.getD_eq_getElem?_getD, List.getElem?_cons_succ, List.getElem?_map, hx]; rfl
      have e2 : dor (drL L) (j + 1) = wDor (cutL 32 L)[j] := by
        unfold dor drL drK nw
        rw [List.take_length, List.getD_eq_getElem?_getD, List.getElem?_cons_succ, List.getElem?_map, hx]; rfl
      rw [List.getElem?_map, List.getElem?_range hj, hx]
      simp only [Option.map_some]
      congr 1
      unfold wordB kindB
      rw [e1, e2]
      unfold wPar wDor
      rw [Int.toNat_natCast, (rdM_parse g2).2.2]
      generalize (cutL 32 L)[j] = x at g1 g3
      have hne : x ≠ [] := by intro e; rw [e] at g1; simp at g1
      rw [List.getLast?_eq_some_getLast hne] at g3 ⊢
      have hx2 := List.dropLast_concat_getLast hne
      rcases g3 with g | g
      · injection g with g; rw [g] at hx2 ⊢; simpa using hx2
      · injection g with g; rw [g] at hx2 ⊢; simpa using hx2
    · rw [List.getElem?_eq_none (by simp; omega), List.getElem?_eq_none (by unfold nw at hj; omega)]
  unfold bldT
  rw [hc]
  exact join_cut 32 _ L (Nat.le_refl _)
theorem rd_long {L : List UInt8} (h : 23 < nw L) : rdG L = false := by
  rw [← Bool.not_eq_true]
  intro hr
  have := (rd_words hr).2
  omega
theorem rd_bad {L : List UInt8} {k : Nat} {w : List UInt8} (h : (cutL 32 L)[k]? = some w) (hg : goodW w = false) : rdG L = false := by
  rw [← Bool.not_eq_true]
  intro hr
  have := (rd_words hr).1 w (List.mem_of_getElem? h)
  rw [hg] at this
  cases this
theorem rd_not {L : List UInt8} (h : bldB (prL L) (drL L) = false) : rdG L = false := by unfold rdG; rw [h]; rfl

end Go.Proofs.YtgbicepneonkfaaDoor
