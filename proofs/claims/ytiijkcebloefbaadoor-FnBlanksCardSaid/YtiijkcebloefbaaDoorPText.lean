/- ProfileText and ReadProfile of the program and of the model, and their laws. -/
import Derived.Test.YtiijkcebloefbaaDoorWay
import Derived.Test.YtiijkcebloefbaaDoorRow
import Derived.Test.YtiijkcebloefbaaDoorText
namespace Go.Proofs.YtiijkcebloefbaaDoor
open Go.RowKit

def mark8 (b : Bool) : UInt8 := if b then 35 else 46
def markI (b : Bool) : Int := if b then 35 else 46
theorem mark8_nat (b : Bool) : ((mark8 b).toNat : Int) = markI b := by cases b <;> rfl
/-- the text of the k lowest bits of a number, the highest one first -/
def tx : Nat → Nat → List UInt8
  | 0, _ => []
  | k + 1, n => tx k (n / 2) ++ [mark8 (n.testBit 0)]
theorem tx_len : ∀ k n, (tx k n).length = k
  | 0, _ => rfl
  | k + 1, n => by unfold tx; rw [List.length_append, tx_len k]; rfl
theorem tx_at : ∀ k n j, j < k → (tx k n)[j]? = some (mark8 (n.testBit (k - 1 - j)))
  | 0, _, _, h => absurd h (by omega)
  | k + 1, n, j, h => by
    unfold tx
    by_cases hj : j < k
    · rw [List.getElem?_append_left (by rw [tx_len]; exact hj), tx_at k (n / 2) j hj]
      have e : k + 1 - 1 - j = (k - 1 - j) + 1 := by omega
      rw [e, Nat.testBit_succ]
    · obtain rfl : j = k := by omega
      rw [List.getElem?_append_right (by rw [tx_len]; omega), tx_len]
      simp
/-- the number of a text -/
def tv (l : List UInt8) : Nat := l.foldl (fun n b => 2 * n + (if b = 35 then 1 else 0)) 0
theorem tv_snoc (l : List UInt8) (b : UInt8) : tv (l ++ [b]) = 2 * tv l + (if b = 35 then 1 else 0) := by unfold tv; rw [List.foldl_append]; rfl
theorem tv_step {l : List UInt8} {k : Nat} {b : UInt8} (hb : l[k]? = some b) : tv (l.take (k + 1)) = 2 * tv (l.take k) + (if b = 35 then 1 else 0) := by
  obtain ⟨hk, rfl⟩ := List.getElem?_eq_some_iff.1 hb
  rw [List.take_succ_eq_append_getElem hk, tv_snoc]
theorem tv_lt (l : List UInt8) : ∀ k, tv (l.take k) < 2 ^ k
  | 0 => by simp [tv]
  | k + 1 => by
    have ih := tv_lt l k
    rw [Nat.pow_succ]
    rcases hb : l[k]? with _ | b
    · have hk : l.length ≤ k := List.getElem?_eq_none_iff.1 hb
      rw [List.take_of_length_le (by omega)]
      rw [List.take_of_length_le hk] at ih
      omega
    · rw [tv_step hb]
      split <;> omega
theorem tv_tx : ∀ k n, tv (tx k n) = n % 2 ^ k
  | 0, n => by simp [tv, tx]; omega
  | k + 1, n => by
    unfold tx
    rw [tv_snoc, tv_tx k (n / 2), Nat.pow_succ, Nat.mul_comm (2 ^ k) 2, Nat.mod_mul, Nat.testBit_zero]
    unfold mark8
    by_cases h : n % 2 = 1
    · simp [h]; omega
    · have : n % 2 = 0 := by omega
      simp [this]
def isMark (b : UInt8) : Bool := b == 35 || b == 46
def okP (l : List UInt8) : Bool := decide (l.length = 12) && l.all isMark
theorem mark_is (b : Bool) : isMark (mark8 b) = true := by cases b <;> rfl
theorem tx_marks : ∀ k n, (tx k n).all isMark = true
  | 0, _ => rfl
  | k + 1, n => by unfold tx; rw [List.all_append, tx_marks k]; simp [mark_is]
theorem mark_of {b : UInt8} (h : isMark b = true) (v : Nat) : mark8 ((2 * v + (if b = 35 then 1 else 0)).testBit 0) = b := by
  rw [Nat.testBit_zero]
  unfold isMark at h
  by_cases hb : b = 35
  · subst hb
    have : (2 * v + 1) % 2 = 1 := by omega
    simp [this, mark8]
  · have h2 : b = 46 := by simpa [hb] using h
    subst h2
    have : (2 * v) % 2 = 0 := by omega
    simp [this, mark8]
theorem tx_tv (l : List UInt8) (h : l.all isMark = true) : ∀ k, k ≤ l.length → tx k (tv (l.take k)) = l.take k
  | 0, _ => by simp [tx]
  | k + 1, hk => by
    have hb : l[k]? = some l[k] := List.getElem?_eq_getElem (by omega)
    have hm : isMark l[k] = true := List.all_eq_true.1 h _ (List.getElem_mem _)
    unfold tx
    rw [tv_step hb, mark_of hm, List.take_succ_eq_append_getElem (by omega)]
    have e : (2 * tv (l.take k) + (if l[k] = 35 then 1 else 0)) / 2 = tv (l.take k) := by split <;> omega
    rw [e, tx_tv l h k (by omega)]
/-- a text is that of its number just where it is one -/
theorem okP_iff (l : List UInt8) : okP l = true ↔ tx 12 (tv (l.take 12)) = l := by
  constructor
  · intro h
    unfold okP at h
    rw [Bool.and_eq_true, decide_eq_true_eq] at h
    rw [tx_tv l h.2 12 (by omega), List.take_of_length_le (by omega)]
  · intro h
    unfold okP
    rw [Bool.and_eq_true, decide_eq_true_eq]
    constructor
    · have := congrArg List.length h
      rw [tx_len] at this
      exact this.symm
    · rw [← h]; exact tx_marks 12 _
def rpV (l : List UInt8) : Int := if okP l then (tv l : Int) else 0
def rpE (l : List UInt8) : Int := if okP l then 0 else 6
theorem rp_no {l : List UInt8} (h : okP l = false) : rpV l = 0 ∧ rpE l = 6 := by simp [rpV, rpE, h]
theorem rp_yes {l : List UInt8} (h : okP l = true) : rpV l = tv l ∧ rpE l = 0 := by simp [rpV, rpE, h]
theorem okP_size {l : List UInt8} (h : l.length ≠ 12) : okP l = false := by unfold okP; rw [decide_eq_false h]; rfl
theorem okP_mark {l : List UInt8} {k : Nat} {b : UInt8} (hb : l[k]? = some b) (h : isMark b = false) : okP l = false := by
  unfold okP
  rw [List.all_eq_false.2 ⟨b, List.mem_of_getElem? hb, by simp [h]⟩, Bool.and_false]
def ptT (n : Int) : List UInt8 := if inB n 0 4095 then tx 12 n.toNat else []
def ptE (n : Int) : Int := if inB n 0 4095 then 0 else 2
theorem pt_no {n : Int} (h : inB n 0 4095 = false) : ptT n = [] ∧ ptE n = 2 := by simp [ptT, ptE, h]
theorem pt_yes {n : Int} (h : inB n 0 4095 = true) : ptT n = tx 12 n.toNat ∧ ptE n = 0 := by simp [ptT, ptE, h]

theorem bit16 (n p : Nat) (hn : n < 4096) : (bits .and .u16 ((n : Int) / 2 ^ p) 1 == 1) = n.testBit p := by
  have e : (n : Int) / 2 ^ p = ((n / 2 ^ p : Nat) : Int) := by rw [Int.natCast_ediv, Int.natCast_pow]; rfl
  have hle : n / 2 ^ p ≤ n := Nat.div_le_self _ _
  have h1 : ((1 : Nat) : Int) = 1 := rfl
  rw [e, ← h1, u16_and_nat _ _ (by omega) (by omega), Nat.testBit_eq_decide_div_mod_eq, nat_mask1]
  by_cases h : n / 2 ^ p % 2 = 1
  · rw [h]; rfl
  · have : n / 2 ^ p % 2 = 0 := by omega
    rw [this]; rfl
theorem bit64 (n p : Nat) (hn : n < 4096) : (bits .and .i64 ((n : Int) / 2 ^ p) 1 == 1) = n.testBit p := by
  have e : (n : Int) / 2 ^ p = ((n / 2 ^ p : Nat) : Int) := by rw [Int.natCast_ediv, Int.natCast_pow]; rfl
  have hle : n / 2 ^ p ≤ n := Nat.div_le_self _ _
  have h1 : ((1 : Nat) : Int) = 1 := rfl
  rw [e, ← h1, and_nat64 _ _ (by omega) (by omega), Nat.testBit_eq_decide_div_mod_eq, nat_mask1]
  by_cases h : n / 2 ^ p % 2 = 1
  · rw [h]; rfl
  · have : n / 2 ^ p % 2 = 0 := by omega
    rw [this]; rfl

/-- twelve cells of marks, k of them written -/
def markRow (n k j : Nat) : Value := .int .u8 (if j < k then markI (n.testBit (11 - j)) else 0)
theorem markRow_set {n k : Nat} {x : Int} (hx : markI (n.testBit (11 - k)) = x) (j : Nat) : (if j = k then Value.int .u8 x else markRow n k j) = markRow n (k + 1) j := by
  unfold markRow
  by_cases h : j = k
  · subst h
    rw [if_pos rfl, if_pos (by omega), hx]
  · rw [if_neg h]
    by_cases h2 : j < k
    · rw [if_pos h2, if_pos (by omega)]
    · rw [if_neg h2, if_neg (by omega)]
theorem markRow_new (w : World) (t : TypeId) : (w.alloc (.cells #[.int .u8 0, .int .u8 0, .int .u8 0, .int .u8 0, .int .u8 0, .int .u8 0, .int .u8 0, .int .u8 0, .int .u8 0, .int .u8 0, .int .u8 0, .int .u8 0] t)).rowIs w.heap.size t 12 (markRow 0 0) := by
  refine ⟨_, heap_alloc_new w _, rfl, fun i hi => ?_⟩
  unfold markRow
  rw [if_neg (by omega)]
  match i, hi with
  | 0, _ | 1, _ | 2, _ | 3, _ | 4, _ | 5, _ | 6, _ | 7, _ | 8, _ | 9, _ | 10, _ | 11, _ => rfl
theorem mark_run {W : World} {g n cap : Nat} (hc : ∀ j, j < 12 → W.cell? ⟨g, j, none⟩ = some (.int .u8 (markI (n.testBit (11 - j))))) :
    ∃ t : ByteArray, Txt t (tx 12 n) ∧ t.size = 12 ∧ (convert 22 9 (.slice (some ⟨g, 0, none⟩) 12 cap)).run Tryd.prog W = .ok (.string t) W := by
  refine ⟨⟨(tx 12 n).toArray⟩, rfl, ?_, ?_⟩
  · show (tx 12 n).toArray.size = 12
    simp [tx_len]
  · have e : 12 = (tx 12 n).length := by rw [tx_len]
    rw [e]
    refine run_convert_bytes_back W _ _ 5 ⟨g, 0, none⟩ cap (tx 12 n) Tryd.underlying22 Tryd.underlying5 Tryd.underlying9 ?_
    intro j hj
    have hj' : j < 12 := by rwa [tx_len] at hj
    have hv := tx_at 12 n j hj'
    rw [List.getElem?_eq_getElem hj] at hv
    injection hv with hv
    rw [hv, mark8_nat]
    have := hc j hj'
    unfold Addr.add
    split
    · next h0 => subst h0; exact this
    · simpa using this

end Go.Proofs.YtiijkcebloefbaaDoor
