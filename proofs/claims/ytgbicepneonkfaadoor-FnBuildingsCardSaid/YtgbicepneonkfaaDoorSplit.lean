/- Texts cut at a byte: the plain function, and that it is what the library's contract of strings.Split says. -/
import Derived.Test.YtgbicepneonkfaaDoorOwn
import Derived.Lib.SplitLaws
import Derived.Lib.IndexLaws
import Derived.Lib.IndexBytes
namespace Go.Proofs.YtgbicepneonkfaaDoor

def cutStep (b : UInt8) (st : List (List UInt8) × List UInt8) (c : UInt8) : List (List UInt8) × List UInt8 := if c = b then (st.1 ++ [st.2], []) else (st.1, st.2 ++ [c])
def cutS (b : UInt8) (l : List UInt8) : List (List UInt8) × List UInt8 := l.foldl (cutStep b) ([], [])
def cutL (b : UInt8) (l : List UInt8) : List (List UInt8) := (cutS b l).1 ++ [(cutS b l).2]
theorem cutS_snoc (b : UInt8) (l : List UInt8) (c : UInt8) : cutS b (l ++ [c]) = cutStep b (cutS b l) c := by simp [cutS, List.foldl_append]
theorem fold_front (b : UInt8) (l : List UInt8) (d0 done : List (List UInt8)) (cur : List UInt8) :
    l.foldl (cutStep b) (d0 ++ done, cur) = (d0 ++ (l.foldl (cutStep b) (done, cur)).1, (l.foldl (cutStep b) (done, cur)).2) := by
  induction l generalizing done cur with
  | nil => rfl
  | cons c r ih =>
    rw [List.foldl_cons, List.foldl_cons]
    by_cases h : c = b
    · have e1 : cutStep b (d0 ++ done, cur) c = (d0 ++ (done ++ [cur]), []) := by simp [cutStep, h]
      have e2 : cutStep b (done, cur) c = (done ++ [cur], []) := by simp [cutStep, h]
      rw [e1, e2, ih]
    · have e1 : cutStep b (d0 ++ done, cur) c = (d0 ++ done, cur ++ [c]) := by simp [cutStep, h]
      have e2 : cutStep b (done, cur) c = (done, cur ++ [c]) := by simp [cutStep, h]
      rw [e1, e2, ih]
theorem fold_none (b : UInt8) (l : List UInt8) (h : ∀ c ∈ l, c ≠ b) (done : List (List UInt8)) (cur : List UInt8) : l.foldl (cutStep b) (done, cur) = (done, cur ++ l) := by
  induction l generalizing cur with
  | nil => simp
  | cons c r ih =>
    have hc : c ≠ b := h c (List.mem_cons_self ..)
    have e : cutStep b (done, cur) c = (done, cur ++ [c]) := by simp [cutStep, hc]
    rw [List.foldl_cons, e, ih (fun x hx => h x (List.mem_cons_of_mem _ hx)), List.append_assoc]
    rfl
theorem cutL_none (b : UInt8) (l : List UInt8) (h : ∀ c ∈ l, c ≠ b) : cutL b l = [l] := by
  unfold cutL cutS
  rw [fold_none b l h]
  simp
theorem cutL_hit (b : UInt8) (p r : List UInt8) (h : ∀ c ∈ p, c ≠ b) : cutL b (p ++ b :: r) = p :: cutL b r := by
  have e : cutS b (p ++ b :: r) = (p :: (cutS b r).1, (cutS b r).2) := by
    unfold cutS
    rw [List.foldl_append, fold_none b p h, List.foldl_cons]
    have e1 : cutStep b ([], [] ++ p) b = ([p] ++ [], []) := by simp [cutStep]
    rw [e1, fold_front b r [p] [] []]
    rfl
  unfold cutL
  rw [e]
  rfl
theorem split_cut (b : UInt8) : ∀ (n : Nat) (l : List UInt8), l.length ≤ n → Lib.splitK [b] 0 (Lib.count l [b]) l = cutL b l
  | n, l, hn => by
    rcases hi : Lib.indexByte l b with i | i
    · have hidx : Lib.index l [b] = (i : Int) := by rw [Lib.index_one]; exact hi
      obtain ⟨h1, h2⟩ := Lib.indexByte_some hi
      obtain ⟨hl, hb⟩ := List.getElem?_eq_some_iff.1 h1
      have hcnt := Lib.count_hit (sub := [b]) (by simp) hidx
      rw [List.length_singleton] at hcnt
      have hsplit : l = l.take i ++ b :: l.drop (i + 1) := by
        rw [← hb, List.getElem_cons_drop, List.take_append_drop]
      have hno : ∀ c ∈ l.take i, c ≠ b := by
        intro c hc e
        subst e
        obtain ⟨k, hk, e⟩ := List.getElem_of_mem hc
        rw [List.length_take] at hk
        rw [List.getElem_take] at e
        exact h2 k (by omega) (by rw [List.getElem?_eq_getElem (by omega), e])
      match n, hn with
      | 0, hn => omega
      | n + 1, hn =>
        have ih := split_cut b n (l.drop (i + 1)) (by rw [List.length_drop]; omega)
        have hm : ¬ (Lib.index l [b] == -1) = true := fun e => by have := beq_iff_eq.1 e; omega
        rw [hcnt, Nat.add_comm 1]
        unfold Lib.splitK
        rw [if_neg hm, hidx]
        simp only [Int.toNat_natCast, Nat.add_zero, List.length_singleton]
        rw [ih]
        conv => rhs; rw [hsplit]
        rw [cutL_hit b _ _ hno]
    · have hge := Lib.indexByte_ge l b
      have hi' : Lib.indexByte l b = -1 := by rw [hi] at hge ⊢; omega
      have hidx : Lib.index l [b] = -1 := by rw [Lib.index_one]; exact hi'
      have h0 := Lib.count_miss hidx
      rw [h0]
      have hno : ∀ c ∈ l, c ≠ b := by
        intro c hc e
        subst e
        obtain ⟨k, hk⟩ := List.getElem?_of_mem hc
        exact Lib.indexByte_none hi' k hk
      rw [cutL_none b l hno]
      rfl
theorem cut_count (b : UInt8) (l : List UInt8) : (cutL b l).length = l.count b + 1 := by
  have : ∀ (l : List UInt8) (st : List (List UInt8) × List UInt8), (l.foldl (cutStep b) st).1.length = st.1.length + l.count b := by
    intro l
    induction l with
    | nil => intro st; simp
    | cons c r ih =>
      intro st
      rw [List.foldl_cons, ih, List.count_cons]
      by_cases h : c = b
      · simp [cutStep, h]; omega
      · simp [cutStep, h]
  unfold cutL cutS
  rw [List.length_append, this]
  simp

end Go.Proofs.YtgbicepneonkfaaDoor
