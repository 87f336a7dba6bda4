/- Access tables: plain lists and their bits. -/
import Derived.Test.YtidjnnooeepklaaRow
import Derived.Laws.BitsAllLaws
namespace Go.Proofs.Ytidjnnooeepklaa
open Go Go.RowKit

/-- how many columns -/
def colT (T : List (List Int)) : Nat := (T.getD 0 []).length
def rowB (m : Nat) (xs : List Int) : Bool := decide (xs.length = m) && allIn 0 1 xs
def tabB (T : List (List Int)) : Bool := inB (T.length : Int) 1 10 && (inB (colT T : Int) 1 12 && T.all (rowB (colT T)))
theorem tabB_len {T : List (List Int)} {n : Nat} (hl : T.length = n) (h : inB (n : Int) 1 10 = false) : tabB T = false := by unfold tabB; rw [hl, h]; rfl
theorem tabB_col {T : List (List Int)} {m : Nat} (hm : colT T = m) (h : inB (m : Int) 1 12 = false) : tabB T = false := by unfold tabB; rw [hm, h]; simp
theorem tabB_row {T : List (List Int)} {m j : Nat} {xs : List Int} (hm : colT T = m) (hy : T[j]? = some xs) (h : rowB m xs = false) : tabB T = false := by
  unfold tabB
  have : T.all (rowB (colT T)) = false := by
    rw [List.all_eq_false]
    exact ⟨xs, List.mem_of_getElem? hy, by rw [hm, h]; simp⟩
  rw [this]; simp
theorem tabB_yes {T : List (List Int)} {n m : Nat} (hl : T.length = n) (hm : colT T = m) (h1 : inB (n : Int) 1 10 = true) (h2 : inB (m : Int) 1 12 = true) (h3 : (T.take n).all (rowB m) = true) : tabB T = true := by
  rw [List.take_of_length_le (by omega)] at h3
  unfold tabB; rw [hl, hm, h1, h2, h3]; rfl
theorem rowB_len {m n : Nat} {xs : List Int} (hl : xs.length = n) (h : n ≠ m) : rowB m xs = false := by unfold rowB; rw [hl, decide_eq_false h]; rfl
theorem rowB_all {m n : Nat} {xs : List Int} (hl : xs.length = n) (h : n = m) : rowB m xs = allIn 0 1 xs := by unfold rowB; rw [hl, decide_eq_true h]; rfl
theorem rowB_true {m : Nat} {xs : List Int} (h : rowB m xs = true) : xs.length = m ∧ allIn 0 1 xs = true := by
  unfold rowB at h; simpa using h
theorem tabB_true {T : List (List Int)} (h : tabB T = true) : (1 ≤ T.length ∧ T.length ≤ 10) ∧ (1 ≤ colT T ∧ colT T ≤ 12) ∧ ∀ (i : Nat) xs, T[i]? = some xs → xs.length = colT T ∧ allIn 0 1 xs = true := by
  unfold tabB at h
  rw [Bool.and_eq_true, Bool.and_eq_true] at h
  obtain ⟨h1, h2, h3⟩ := h
  have h1 := inB_true.1 h1
  have h2 := inB_true.1 h2
  exact ⟨⟨by omega, by omega⟩, ⟨by omega, by omega⟩, fun i xs hi => rowB_true (List.all_eq_true.1 h3 xs (List.mem_of_getElem? hi))⟩
theorem rows_step {m j : Nat} {T : List (List Int)} {xs : List Int} (hy : T[j]? = some xs) (h : (T.take j).all (rowB m) = true) (hx : rowB m xs = true) : (T.take (j + 1)).all (rowB m) = true := by
  obtain ⟨hl, e⟩ := List.getElem?_eq_some_iff.1 hy
  rw [List.take_succ_eq_append_getElem hl, List.all_append, h, e]
  simp [hx]

/-- the code of a table and some of its rows -/
def tksE (T : List (List Int)) (ks : List Int) : Int := if tabB T then (if withB 0 ((T.length : Int) - 1) ks then 0 else 2) else 1
def tE (T : List (List Int)) : Int := if tabB T then 0 else 1
def tkE (T : List (List Int)) (k : Int) : Int := if tabB T then (if inB k 0 ((T.length : Int) - 1) then 0 else 2) else 1
def tk2E (T : List (List Int)) (a b : Int) : Int := if tkE T a = 0 then tkE T b else tkE T a
theorem tks_none (T : List (List Int)) : tksE T [] = tE T := by unfold tksE tE withB allIn; simp
theorem tks_one (T : List (List Int)) (k : Int) : tksE T [k] = tkE T k := by unfold tksE tkE withB allIn; simp
theorem tks_two (T : List (List Int)) (a b : Int) : tksE T [a, b] = tk2E T a b := by
  have e : withB 0 ((T.length : Int) - 1) [a, b] = (inB a 0 ((T.length : Int) - 1) && inB b 0 ((T.length : Int) - 1)) := by unfold withB allIn; simp
  unfold tksE tk2E tkE
  rw [e]
  rcases tabB T with _ | _ <;> rcases inB a 0 ((T.length : Int) - 1) with _ | _ <;> rcases inB b 0 ((T.length : Int) - 1) with _ | _ <;> simp
theorem tks_zero {T : List (List Int)} {ks : List Int} (h : tksE T ks = 0) : tabB T = true := by
  unfold tksE at h
  rcases hp : tabB T with _ | _
  · rw [hp] at h; cases h
  · rfl
theorem tk_zero {T : List (List Int)} {k : Int} (h : tkE T k = 0) : tabB T = true ∧ inB k 0 ((T.length : Int) - 1) = true := by
  unfold tkE at h
  rcases hp : tabB T with _ | _
  · rw [hp] at h; cases h
  · rcases hi : inB k 0 ((T.length : Int) - 1) with _ | _
    · rw [hp, hi] at h; cases h
    · exact ⟨rfl, rfl⟩
theorem tE_zero {T : List (List Int)} (h : tE T = 0) : tabB T = true := by
  unfold tE at h
  rcases hp : tabB T with _ | _
  · rw [hp] at h; cases h
  · rfl

/-! rows as bits -/
def bitN : List Int → Nat
  | [] => 0
  | x :: t => (if x = 1 then 1 else 0) + 2 * bitN t
theorem bitN_bit : ∀ (xs : List Int) (k : Nat), (bitN xs).testBit k = decide (xs.getD k 0 = 1)
  | [], k => by simp [bitN]
  | x :: t, 0 => by
    unfold bitN
    rw [Nat.testBit_zero]
    by_cases h : x = 1
    · simp [h]
    · simp [h]
  | x :: t, k + 1 => by
    have ih := bitN_bit t k
    unfold bitN
    rw [Nat.testBit_succ]
    have e : ((if x = 1 then 1 else 0) + 2 * bitN t) / 2 = bitN t := by split <;> omega
    rw [e, ih]
    simp
theorem bitN_lt : ∀ (xs : List Int), bitN xs < 2 ^ xs.length
  | [] => by simp [bitN]
  | x :: t => by
    have ih := bitN_lt t
    unfold bitN
    rw [List.length_cons, Nat.pow_succ]
    split <;> omega
theorem bitN_12 {xs : List Int} (h : xs.length ≤ 12) : bitN xs < 4096 := Nat.lt_of_lt_of_le (bitN_lt xs) (Nat.le_trans (Nat.pow_le_pow_right (by omega) h) (by decide))
theorem bitN_yes {xs : List Int} {k : Nat} (h : xs[k]? = some 1) : bitN (xs.take (k + 1)) = bitN (xs.take k) ||| 2 ^ k := by
  refine Nat.eq_of_testBit_eq (fun j => ?_)
  rw [Nat.testBit_or, bitN_bit, bitN_bit, Nat.testBit_two_pow]
  obtain ⟨hl, e⟩ := List.getElem?_eq_some_iff.1 h
  rw [List.take_succ_eq_append_getElem hl, e]
  simp only [List.getD_eq_getElem?_getD]
  rcases Nat.lt_trichotomy j k with h1 | h1 | h1
  · rw [List.getElem?_append_left (by rw [List.length_take]; omega)]
    have : ¬ k = j := by omega
    simp [this]
  · subst h1
    rw [List.getElem?_append_right (by rw [List.length_take]; omega)]
    simp [List.length_take, Nat.min_eq_left (Nat.le_of_lt hl)]
  · have : ¬ k = j := by omega
    rw [List.getElem?_eq_none (by rw [List.length_append, List.length_take]; simp; omega), List.getElem?_eq_none (by rw [List.length_take]; omega)]
    simp [this]
theorem bitN_no {xs : List Int} {k : Nat} (h : xs[k]? = some 0) : bitN (xs.take (k + 1)) = bitN (xs.take k) := by
  refine Nat.eq_of_testBit_eq (fun j => ?_)
  rw [bitN_bit, bitN_bit]
  obtain ⟨hl, e⟩ := List.getElem?_eq_some_iff.1 h
  rw [List.take_succ_eq_append_getElem hl, e]
  simp only [List.getD_eq_getElem?_getD]
  rcases Nat.lt_trichotomy j k with h1 | h1 | h1
  · rw [List.getElem?_append_left (by rw [List.length_take]; omega)]
  · subst h1
    rw [List.getElem?_append_right (by rw [List.length_take]; omega), List.getElem?_eq_none (l := xs.take j) (by rw [List.length_take]; omega)]
    simp [List.length_take, Nat.min_eq_left (Nat.le_of_lt hl)]
  · rw [List.getElem?_eq_none (by rw [List.length_append, List.length_take]; simp; omega), List.getElem?_eq_none (by rw [List.length_take]; omega)]

theorem nat_and16 (a b : Nat) (ha : a < 65536) (hb : b < 65536) : bits .and .u16 (a : Int) (b : Int) = ((a &&& b : Nat) : Int) := u16_and_nat a b ha hb
theorem nat_or16 (a b : Nat) (ha : a < 65536) (hb : b < 65536) : bits .or .u16 (a : Int) (b : Int) = ((a ||| b : Nat) : Int) := by
  have h : a ||| b < 65536 := Nat.or_lt_two_pow (n := 16) ha hb
  unfold bits
  show IntKind.u16.wrap (((BitVec.ofInt 16 (a : Int)) ||| (BitVec.ofInt 16 (b : Int))).toNat : Int) = _
  rw [BitVec.toNat_or, BitVec.ofInt_natCast, BitVec.ofInt_natCast, BitVec.toNat_ofNat, BitVec.toNat_ofNat, Nat.mod_eq_of_lt (by omega), Nat.mod_eq_of_lt (by omega), IntKind.wrap_u16]
  omega

/-- is a row contained in another one (as the model asks it) -/
def inR (xs ys : List Int) : Bool := (List.range xs.length).all fun k => decide (xs.getD k 0 ≤ ys.getD k 0)
/-- the columns that two rows have in common -/
def comR (xs ys : List Int) : List Int := ((List.range xs.length).filter fun k => decide (xs.getD k 0 = 1) && decide (ys.getD k 0 = 1)).map fun (k : Nat) => (k : Int)
theorem row_bit {m : Nat} {xs : List Int} (h : rowB m xs = true) (k : Nat) : xs.getD k 0 = 0 ∨ xs.getD k 0 = 1 := by
  rw [List.getD_eq_getElem?_getD]
  cases hv : xs[k]? with
  | none => exact .inl rfl
  | some v =>
    have := allIn_at (rowB_true h).2 hv
    simp; omega
theorem inR_bits {m : Nat} {xs ys : List Int} (hx : rowB m xs = true) (hy : rowB m ys = true) : decide (bitN xs &&& bitN ys = bitN xs) = inR xs ys := by
  rw [Bool.eq_iff_iff, decide_eq_true_iff]
  unfold inR
  rw [List.all_eq_true]
  constructor
  · intro h k _
    have h1 := congrArg (fun z => Nat.testBit z k) h
    simp only [Nat.testBit_and, bitN_bit] at h1
    rcases row_bit hx k with e | e <;> rcases row_bit hy k with f | f
    · rw [e, f]; rfl
    · rw [e, f]; rfl
    · rw [e, f] at h1; simp at h1
    · rw [e, f]; rfl
  · intro h
    refine Nat.eq_of_testBit_eq (fun k => ?_)
    rw [Nat.testBit_and, bitN_bit, bitN_bit]
    by_cases hk : k < xs.length
    · have h1 := h k (List.mem_range.2 hk)
      have h1 := of_decide_eq_true h1
      rcases row_bit hx k with e | e <;> rcases row_bit hy k with f | f <;> first | (exfalso; omega) | (rw [e, f]; rfl)
    · have e : xs.getD k 0 = 0 := by rw [List.getD_eq_getElem?_getD, List.getElem?_eq_none (by omega)]; rfl
      rw [e]; rfl
theorem comR_bits {xs ys : List Int} : decide (bitN xs &&& bitN ys = 0) = (comR xs ys).isEmpty := by
  rw [Bool.eq_iff_iff, decide_eq_true_iff, List.isEmpty_iff]
  unfold comR
  rw [List.map_eq_nil_iff, List.filter_eq_nil_iff]
  constructor
  · intro h k _
    have h1 := congrArg (fun z => Nat.testBit z k) h
    simp only [Nat.testBit_and, bitN_bit, Nat.zero_testBit] at h1
    simpa using h1
  · intro h
    refine Nat.eq_of_testBit_eq (fun k => ?_)
    rw [Nat.testBit_and, bitN_bit, bitN_bit, Nat.zero_testBit]
    by_cases hk : k < xs.length
    · have h1 := h k (List.mem_range.2 hk)
      simpa using h1
    · have e : xs.getD k 0 = 0 := by rw [List.getD_eq_getElem?_getD, List.getElem?_eq_none (by omega)]; rfl
      rw [e]; rfl
/-- the columns of a set of twelve bits -/
def lisN (u : Nat) (n : Nat) : List Int := ((List.range n).filter fun k => u.testBit k).map fun (k : Nat) => (k : Int)
theorem lisN_yes {u k : Nat} (h : u.testBit k = true) : lisN u (k + 1) = lisN u k ++ [(k : Int)] := by
  unfold lisN; rw [List.range_succ, List.filter_append, List.map_append]; simp [h]
theorem lisN_no {u k : Nat} (h : u.testBit k = false) : lisN u (k + 1) = lisN u k := by
  unfold lisN; rw [List.range_succ, List.filter_append, List.map_append]; simp [h]
theorem lisN_more {u n : Nat} (h : u < 2 ^ n) : ∀ d, lisN u (n + d) = lisN u n
  | 0 => rfl
  | d + 1 => by
    rw [← Nat.add_assoc, lisN_no (Nat.testBit_lt_two_pow (Nat.lt_of_lt_of_le h (Nat.pow_le_pow_right (by omega) (by omega)))), lisN_more h d]
theorem comR_list {m : Nat} {xs ys : List Int} (hx : xs.length = m) (hm : m ≤ 12) : lisN (bitN xs &&& bitN ys) 12 = comR xs ys := by
  have hlt : bitN xs &&& bitN ys < 2 ^ m := Nat.lt_of_le_of_lt Nat.and_le_left (by rw [← hx]; exact bitN_lt xs)
  have := lisN_more hlt (12 - m)
  rw [show m + (12 - m) = 12 by omega] at this
  rw [this]
  unfold lisN comR
  rw [hx]
  congr 1
  refine List.filter_congr (fun k _ => ?_)
  rw [Nat.testBit_and, bitN_bit, bitN_bit]
/-- how many ones -/
def onesN : Nat → Nat → Nat
  | 0, _ => 0
  | k + 1, u => u % 2 + onesN k (u / 2)
theorem ones_sum : ∀ (xs : List Int) (k : Nat), xs.length ≤ k → allIn 0 1 xs = true → ((onesN k (bitN xs) : Nat) : Int) = xs.sum
  | [], k, _, _ => by
    have : ∀ k, onesN k 0 = 0 := by intro k; induction k with | zero => rfl | succ k ih => unfold onesN; simp [ih]
    simp [bitN, this]
  | x :: t, 0, h, _ => by simp at h
  | x :: t, k + 1, h, ha => by
    unfold allIn at ha
    rw [List.all_cons, Bool.and_eq_true] at ha
    have ih := ones_sum t k (by simp at h; omega) ha.2
    have hx := inB_true.1 ha.1
    unfold onesN bitN
    rw [List.sum_cons]
    by_cases e : x = 1
    · rw [if_pos e, show (1 + 2 * bitN t) % 2 = 1 by omega, show (1 + 2 * bitN t) / 2 = bitN t by omega]
      omega
    · rw [if_neg e, show (0 + 2 * bitN t) % 2 = 0 by omega, show (0 + 2 * bitN t) / 2 = bitN t by omega]
      omega
theorem sum_full : ∀ (xs : List Int), allIn 0 1 xs = true → (decide (xs.sum = (xs.length : Int)) = !(xs.any fun y => decide (y = 0))) ∧ 0 ≤ xs.sum ∧ xs.sum ≤ xs.length
  | [], _ => by simp
  | x :: t, ha => by
    unfold allIn at ha
    rw [List.all_cons, Bool.and_eq_true] at ha
    obtain ⟨ih, i0, i1⟩ := sum_full t ha.2
    have hx := inB_true.1 ha.1
    rw [List.sum_cons, List.length_cons, List.any_cons]
    refine ⟨?_, by omega, by omega⟩
    by_cases e : x = 1
    · subst e
      rw [show decide ((1 : Int) = 0) = false from rfl, Bool.false_or, ← ih]
      rw [Bool.eq_iff_iff, decide_eq_true_iff, decide_eq_true_iff]
      omega
    · have : x = 0 := by omega
      subst this
      rw [show decide ((0 : Int) = 0) = true from rfl, Bool.true_or]
      simp
      omega

/-! answers -/
def getR (T : List (List Int)) (i : Nat) : List Int := T.getD i []
def hierP (xs ys : List Int) : Bool := inR xs ys || inR ys xs || (comR xs ys).isEmpty
def hierK (T : List (List Int)) (i k : Nat) : Bool := (List.range k).all fun j => hierP (getR T i) (getR T j)
def hierB (T : List (List Int)) (n : Nat) : Bool := (List.range n).all fun i => hierK T i i
theorem hierK_step (T : List (List Int)) (i k : Nat) : hierK T i (k + 1) = (hierK T i k && hierP (getR T i) (getR T k)) := by
  unfold hierK; rw [List.range_succ, List.all_append]; simp
theorem hierB_step (T : List (List Int)) (n : Nat) : hierB T (n + 1) = (hierB T n && hierK T n n) := by
  unfold hierB; rw [List.range_succ, List.all_append]; simp
theorem hierK_no {T : List (List Int)} {i j k : Nat} (hj : j < k) (h : hierP (getR T i) (getR T j) = false) : hierK T i k = false := by
  unfold hierK
  rw [List.all_eq_false]
  exact ⟨j, List.mem_range.2 hj, by simp [h]⟩
theorem hierB_no {T : List (List Int)} {i n : Nat} (hi : i < n) (h : hierK T i i = false) : hierB T n = false := by
  unfold hierB
  rw [List.all_eq_false]
  exact ⟨i, List.mem_range.2 hi, by simp [h]⟩
def hierV (T : List (List Int)) : Bool := if tE T = 0 then hierB T T.length else false

/-- the numbers below n for which something holds -/
def whereL (p : Nat → Bool) (n : Nat) : List Int := ((List.range n).filter p).map fun (k : Nat) => (k : Int)
theorem where_yes {p : Nat → Bool} {k : Nat} (h : p k = true) : whereL p (k + 1) = whereL p k ++ [(k : Int)] := by
  unfold whereL; rw [List.range_succ, List.filter_append, List.map_append]; simp [h]
theorem where_no {p : Nat → Bool} {k : Nat} (h : p k = false) : whereL p (k + 1) = whereL p k := by
  unfold whereL; rw [List.range_succ, List.filter_append, List.map_append]; simp [h]
theorem where_len (p : Nat → Bool) (n : Nat) : (whereL p n).length ≤ n := by
  unfold whereL; rw [List.length_map]; exact Nat.le_trans (List.length_filter_le _ _) (by simp)
theorem where_congr {p q : Nat → Bool} {n : Nat} (h : ∀ i, i < n → p i = q i) : whereL p n = whereL q n := by
  unfold whereL
  rw [List.filter_congr (fun i hi => h i (List.mem_range.1 hi))]
def ciP (T : List (List Int)) (k : Nat) (i : Nat) : Bool := decide (i ≠ k) && inR (getR T i) (getR T k)
def ciL (T : List (List Int)) (k : Int) : List Int := if tkE T k = 0 then whereL (ciP T k.toNat) T.length else []
def mkP (T : List (List Int)) (i : Nat) : Bool := !((getR T i).any fun y => decide (y = 0))
def mkT (T : List (List Int)) : List Int := if tE T = 0 then whereL (mkP T) T.length else []
def cdV (T : List (List Int)) (k : Int) : Int := if tkE T k = 0 then (getR T k.toNat).sum else 0
def dcL (T : List (List Int)) (a b : Int) : List Int := if tk2E T a b = 0 then comR (getR T a.toNat) (getR T b.toNat) else []
/-- the first row that is equal to a row -/
def fstR (T : List (List Int)) (i : Nat) : Nat := T.findIdx fun ys => decide (ys = getR T i)
def eqT (T : List (List Int)) : List Int := if tE T = 0 then (List.range T.length).map fun i => (fstR T i : Int) else []
def trT (T : List (List Int)) : List (List Int) := if tE T = 0 then (List.range (colT T)).map fun k => T.map fun xs => xs.getD k 0 else []

end Go.Proofs.Ytidjnnooeepklaa
