/- DigitsOf of the program and of the model answer alike: contracts and the law's walk. Plain mathematics of the law of digits: a number is recovered from its digits, and digits from their number. -/
import Derived.Test.YtpabccgndhmcdaaNumb
import Derived.Test.YtpabccgndhmcdaaOwn
namespace Go.Proofs.Ytpabccgndhmcdaa
open Go.RowKit

/-- what is left of the number after the last j bases -/
def quo (xs : List Int) (m : Int) : Nat → Int
  | 0 => m
  | j + 1 => quo xs m j / xs.getD (xs.length - 1 - j) 1
def digit (xs : List Int) (m : Int) (i : Nat) : Int := quo xs m (xs.length - 1 - i) % xs.getD i 1
def digits (xs : List Int) (m : Int) : List Int := (List.range xs.length).map (digit xs m)
def digOk (m : Int) (xs : List Int) : Bool := inB m 0 1000000000000 && withB 1 100 xs && decide (quo xs m xs.length ≤ 0)
def digL (m : Int) (xs : List Int) : List Int := if digOk m xs then digits xs m else []
def digE (m : Int) (xs : List Int) : Int := if digOk m xs then 0 else 2
theorem dig_no {m : Int} {xs : List Int} (h : inB m 0 1000000000000 = false ∨ withB 1 100 xs = false ∨ 0 < quo xs m xs.length) : digL m xs = [] ∧ digE m xs = 2 := by
  have : digOk m xs = false := by
    unfold digOk
    rcases h with h | h | h
    · simp [h]
    · simp [h]
    · simp; omega
  simp [digL, digE, this]
theorem dig_yes {m : Int} {xs : List Int} (h : inB m 0 1000000000000 = true) (h2 : withB 1 100 xs = true) (h3 : ¬ 0 < quo xs m xs.length) : digL m xs = digits xs m ∧ digE m xs = 0 := by
  have : digOk m xs = true := by simp [digOk, h, h2]; omega
  simp [digL, digE, this]
theorem quo_range {xs : List Int} {m : Int} (h0 : 0 ≤ m) (h1 : m ≤ 1000000000000) (h : allIn 1 100 xs = true) (j : Nat) (hj : j ≤ xs.length) : 0 ≤ quo xs m j ∧ quo xs m j ≤ 1000000000000 := by
  induction j with
  | zero => exact ⟨h0, h1⟩
  | succ j ih =>
    have hi := ih (by omega)
    have hv : xs[xs.length - 1 - j]? = some (xs[xs.length - 1 - j]'(by omega)) := List.getElem?_eq_getElem (by omega)
    obtain ⟨b0, b1⟩ := allIn_at h hv
    unfold quo
    rw [List.getD_eq_getElem?_getD, hv, Option.getD_some]
    refine ⟨Int.ediv_nonneg hi.1 (by omega), ?_⟩
    have := Int.ediv_le_self (xs[xs.length - 1 - j]'(by omega)) hi.1
    omega
theorem quo_step {xs : List Int} {m v : Int} {n j : Nat} (hl : xs.length = n) (hv : xs[n - 1 - j]? = some v) : quo xs m j / v = quo xs m (j + 1) := by
  subst hl
  show _ = quo xs m j / xs.getD (xs.length - 1 - j) 1
  rw [List.getD_eq_getElem?_getD, hv, Option.getD_some]
/-- the row of digits after the last j of them -/
def digRow (xs : List Int) (m : Int) (n j i : Nat) : Value := .int .i64 (if n - j ≤ i then digit xs m i else 0)
theorem digRow_set {xs : List Int} {m v : Int} {n j : Nat} (hl : xs.length = n) (hj : j < n) (hv : xs[n - 1 - j]? = some v) (i : Nat) (hi : i < n) :
    (if i = n - 1 - j then Value.int .i64 (quo xs m j % v) else digRow xs m n j i) = digRow xs m n (j + 1) i := by
  unfold digRow
  by_cases h : i = n - 1 - j
  · subst h
    rw [if_pos rfl, if_pos (by omega)]
    unfold digit
    rw [List.getD_eq_getElem?_getD, hv, Option.getD_some, hl, show n - 1 - (n - 1 - j) = j by omega]
  · rw [if_neg h]
    by_cases h2 : n - j ≤ i
    · rw [if_pos h2, if_pos (by omega)]
    · rw [if_neg h2, if_neg (by omega)]
theorem digRow_end {xs : List Int} {m : Int} {n j : Nat} (hl : xs.length = n) (hj : n ≤ j) (i : Nat) (hi : i < n) : digRow xs m n j i = .int .i64 ((digits xs m).getD i 0) := by
  unfold digRow digits
  rw [if_pos (by omega), List.getD_eq_getElem?_getD, List.getElem?_map, List.getElem?_range (by omega)]
  rfl
theorem digits_len (xs : List Int) (m : Int) : (digits xs m).length = xs.length := by simp [digits]

set_option maxHeartbeats 1000000 in
theorem digitsOf_any (m : Int) (A : Option Addr) (n c : Nat) (xs : List Int) (w : World) (h : Ints w w.heap.size A n xs) (hn : n ≤ 1048576) :
    Calls Try.prog 81 #[.int .i64 m, .slice A n c] w (GivesInts w (digE m xs) (digL m xs)) := by
  have HL := Lib.hid h.len
  rcases hm : inB m 0 1000000000000 with _ | _
  · obtain ⟨e1, e2⟩ := dig_no (xs := xs) (.inl hm)
    rw [e1, e2]; clear e1 e2
    go_enter Try.func81, Try.ntmps81
    go_wp2_with (go_at_call 76; refine (isNumber_any _ _).mono ?_; rintro e w' ⟨rfl, rfl⟩)
    go_ret2
    exact ⟨none, 0, 0, rfl, Own.nil _ (Nat.le_refl _), by omega, Below.refl _ _⟩
  obtain ⟨m0, m1⟩ := inB_true.1 hm
  rcases hq : withB 1 100 xs with _ | _
  · obtain ⟨e1, e2⟩ := dig_no (m := m) (.inr (.inl hq))
    rw [e1, e2]; clear e1 e2
    go_enter Try.func81, Try.ntmps81
    go_wp2_with (first | (go_at_call 76; refine (isNumber_any _ _).mono ?_; rintro e w' ⟨rfl, rfl⟩) | (go_at_call 83; refine (areBases_any _ _ _ xs _ h hn).mono ?_; rintro e w' ⟨rfl, rfl⟩))
    go_ret2
    exact ⟨none, 0, 0, rfl, Own.nil _ (Nat.le_refl _), by omega, Below.refl _ _⟩
  have HM := Lib.hid hm
  have HQ := Lib.hid hq
  have HA := Lib.hid (withB_true hq).2
  have hmk := run_make_row' (P := Try.prog) 24 2 (.int .i64 0) 8 Try.underlying24 Try.info2' rfl .i64 .i64 n (by omega) (by omega)
  go_enter Try.func81, Try.ntmps81
  go_wp2_with (first | (go_at_call 76; refine (isNumber_any _ _).mono ?_; rintro e w' ⟨rfl, rfl⟩) | (go_at_call 83; refine (areBases_any _ _ _ xs _ h hn).mono ?_; rintro e w' ⟨rfl, rfl⟩))
  clear hmk hm hq
  go_loopw [0, 7] (fun q i wr => ∃ j : Nat, j ≤ n ∧ i = .int .i64 ((n : Int) - 1 - j) ∧ q = .int .i64 (quo xs m j) ∧ wr.rowIs w.heap.size 2 n (digRow xs m n j) ∧ Below w.heap.size w wr) (fun _ i _ => (intOf i + 1).toNat)
  case atStart =>
    refine ⟨0, Nat.zero_le _, by go_num, rfl, (World.rowIs_made w (.int .i64 0) n 2).congr (fun i hi => by unfold digRow; rw [if_neg (by omega)]), (Below.refl _ _).alloc (Nat.le_refl _) _⟩
  case round =>
    obtain ⟨j, hj, rfl, rfl, hrow, hb⟩ := hrel
    obtain ⟨r0, r1⟩ := quo_range m0 m1 HA.out j (by rw [HL.out]; exact hj)
    by_cases hlt : j < n
    · obtain ⟨ad, v, rfl, hab, hv, hc⟩ := (h.below hb).at_ (show n - 1 - j < n by omega)
      obtain ⟨b0, b1⟩ := allIn_at HA.out hv
      have hcw : ∀ u, (wr.setCell ⟨w.heap.size, n - 1 - j, none⟩ u).cell? (ad.add (n - 1 - j)) = some (.int .i64 v) := fun u =>
        (World.cell?_setCell_other _ _ _ _ (fun e => by have := congrArg Addr.block e; rw [block_of_add] at this; simp at this; omega)).trans hc
      have hst := hrow.cell (show n - 1 - j < n by omega)
      have hfz := hrow.frozen (n - 1 - j)
      have HS := Lib.hid (quo_step (m := m) HL.out hv)
      have HV := Lib.hid hv
      clear hv
      have HR := Lib.hid hrow
      clear hrow
      have ix1 : ((n : Int) - 1 - j).toNat = n - 1 - j := by omega
      have ix2 : 0 ≤ (n : Int) - 1 - j := by omega
      have ix3 : (n : Int) - 1 - j < n := by omega
      go_wp2
      go_roundw
      case rel => clear ix1 ix2 ix3; exact ⟨j + 1, by omega, by go_num, by rw [HS.out], (HR.out.set (n - 1 - j) (.int .i64 (quo xs m j % v))).congr (fun i hi => digRow_set HL.out hlt HV.out i hi), hb.setCell (by simp) _⟩
      case measure => clear ix1 ix2 ix3; simp [intOf]; omega
    · have HJ := Lib.hid (show j = n by omega)
      have hge : ¬ 0 ≤ (n : Int) - 1 - j := by omega
      have hrow' := hrow.congr (fun i hi => digRow_end (m := m) HL.out (by omega) i hi)
      have HO := Lib.hid (Own.of_row hrow' (by rw [digits_len, HL.out]) (Nat.le_refl _))
      clear hrow hrow'
      by_cases hz : 0 < quo xs m j
      · have HY := Lib.hid (dig_no (m := m) (xs := xs) (.inr (.inr (by rw [HL.out, ← HJ.out]; exact hz))))
        go_wp2
        go_ret2
        refine ⟨none, 0, 0, ret_si HY.out.2.symm, ?_, by omega, hb⟩
        rw [HY.out.1]
        exact Own.nil _ (Nat.le_refl _)
      · have HY := Lib.hid (dig_yes (m := m) (xs := xs) HM.out HQ.out (by rw [HL.out, ← HJ.out]; exact hz))
        go_wp2
        go_ret2
        refine ⟨some ⟨w.heap.size, 0, none⟩, n, n, ret_si HY.out.2.symm, ?_, hn, hb⟩
        rw [HY.out.1]
        exact HO.out

end Go.Proofs.Ytpabccgndhmcdaa

namespace Go.Proofs.Ytpabccgndhmcdaa

def cutN (p : Int) : Int := if 1000000000000 < p then 1000000000001 else p
/-- what the first k digits tell, without a limit -/
def pre (ds bs : List Int) : Nat → Int
  | 0 => 0
  | k + 1 => pre ds bs k * bs.getD k 1 + ds.getD k 0
theorem base_at {bs : List Int} {k : Nat} (h : allIn 1 100 bs = true) (hk : k < bs.length) : bs[k]? = some (bs.getD k 1) ∧ 1 ≤ bs.getD k 1 ∧ bs.getD k 1 ≤ 100 := by
  have hv : bs[k]? = some bs[k] := List.getElem?_eq_getElem hk
  have e : bs.getD k 1 = bs[k] := by rw [List.getD_eq_getElem?_getD, hv]; rfl
  rw [e]
  exact ⟨hv, allIn_at h hv⟩
theorem dig_at {ds bs : List Int} {k : Nat} (hd : digsB (ds.zip bs) = true) (h : allIn 1 100 bs = true) (hl : ds.length = bs.length) (hk : k < bs.length) : ds[k]? = some (ds.getD k 0) ∧ 0 ≤ ds.getD k 0 ∧ ds.getD k 0 ≤ bs.getD k 1 - 1 := by
  have hv : ds[k]? = some (ds[k]'(by omega)) := List.getElem?_eq_getElem (by omega)
  have e : ds.getD k 0 = ds[k]'(by omega) := by rw [List.getD_eq_getElem?_getD, hv]; rfl
  rw [e]
  exact ⟨hv, digs_at hd hv (base_at h hk).1⟩
theorem pre_nonneg {ds bs : List Int} (hd : digsB (ds.zip bs) = true) (h : allIn 1 100 bs = true) (hl : ds.length = bs.length) (k : Nat) (hk : k ≤ bs.length) : 0 ≤ pre ds bs k := by
  induction k with
  | zero => exact Int.le_refl _
  | succ k ih =>
    have hi := ih (by omega)
    obtain ⟨_, b0, _⟩ := base_at h (show k < bs.length by omega)
    obtain ⟨_, d0, _⟩ := dig_at hd h hl (show k < bs.length by omega)
    show 0 ≤ pre ds bs k * bs.getD k 1 + ds.getD k 0
    have := Int.mul_nonneg hi (show 0 ≤ bs.getD k 1 by omega)
    omega
theorem num_pre {ds bs : List Int} (hd : digsB (ds.zip bs) = true) (h : allIn 1 100 bs = true) (hl : ds.length = bs.length) (k : Nat) (hk : k ≤ bs.length) : numC ((ds.zip bs).take k) = cutN (pre ds bs k) := by
  induction k with
  | zero => rfl
  | succ k ih =>
    have hi := ih (by omega)
    obtain ⟨hb, b0, b1⟩ := base_at h (show k < bs.length by omega)
    obtain ⟨hv, d0, d1⟩ := dig_at hd h hl (show k < bs.length by omega)
    have p0 := pre_nonneg hd h hl k (by omega)
    rw [num_step hv hb, hi]
    show numStep (cutN (pre ds bs k)) (ds.getD k 0) (bs.getD k 1) = cutN (pre ds bs k * bs.getD k 1 + ds.getD k 0)
    generalize pre ds bs k = p at *
    generalize bs.getD k 1 = b at *
    generalize ds.getD k 0 = d at *
    unfold numStep cutN
    have hm : p * 1 ≤ p * b := Int.mul_le_mul_of_nonneg_left b0 p0
    by_cases hp : 1000000000000 < p
    · have hc : (1000000000001 : Int) * 1 ≤ 1000000000001 * b := Int.mul_le_mul_of_nonneg_left b0 (by decide)
      rw [if_pos hp, if_pos (show (1000000000000 : Int) < p * b + d by omega)]
      split <;> omega
    · rw [if_neg hp]
      split <;> split <;> omega
theorem quo_pre {ds bs : List Int} (hd : digsB (ds.zip bs) = true) (h : allIn 1 100 bs = true) (hl : ds.length = bs.length) (j : Nat) (hj : j ≤ bs.length) : quo bs (pre ds bs bs.length) j = pre ds bs (bs.length - j) := by
  induction j with
  | zero => rfl
  | succ j ih =>
    have hi := ih (by omega)
    show quo bs (pre ds bs bs.length) j / bs.getD (bs.length - 1 - j) 1 = _
    rw [hi, show bs.length - j = (bs.length - 1 - j) + 1 by omega, show bs.length - (j + 1) = bs.length - 1 - j by omega]
    obtain ⟨_, b0, _⟩ := base_at h (show bs.length - 1 - j < bs.length by omega)
    obtain ⟨_, d0, d1⟩ := dig_at hd h hl (show bs.length - 1 - j < bs.length by omega)
    show (pre ds bs (bs.length - 1 - j) * bs.getD (bs.length - 1 - j) 1 + ds.getD (bs.length - 1 - j) 0) / bs.getD (bs.length - 1 - j) 1 = _
    rw [Int.add_comm, Int.add_mul_ediv_right _ _ (by omega), Int.ediv_eq_zero_of_lt d0 (by omega), Int.zero_add]
theorem digits_pre {ds bs : List Int} (hd : digsB (ds.zip bs) = true) (h : allIn 1 100 bs = true) (hl : ds.length = bs.length) : digits bs (pre ds bs bs.length) = ds := by
  apply List.ext_getElem?
  intro i
  unfold digits
  rw [List.getElem?_map]
  by_cases hi : i < bs.length
  · rw [List.getElem?_range hi]
    obtain ⟨_, b0, _⟩ := base_at h hi
    obtain ⟨hv, d0, d1⟩ := dig_at hd h hl hi
    rw [hv]
    show some (digit bs (pre ds bs bs.length) i) = _
    unfold digit
    rw [quo_pre hd h hl _ (by omega), show bs.length - (bs.length - 1 - i) = i + 1 by omega]
    show some ((pre ds bs i * bs.getD i 1 + ds.getD i 0) % bs.getD i 1) = _
    rw [Int.add_comm, Int.add_mul_emod_self_right, Int.emod_eq_of_lt d0 (by omega)]
  · rw [List.getElem?_eq_none (by simp; omega), List.getElem?_eq_none (by omega)]
    rfl
theorem num_ok {ds bs : List Int} (h : numE ds bs = 0) : withB 1 100 bs = true ∧ ds.length = bs.length ∧ digsB (ds.zip bs) = true ∧ numC (ds.zip bs) ≤ 1000000000000 ∧ numV ds bs = numC (ds.zip bs) := by
  unfold numE at h
  by_cases hc : numOk ds bs = true
  · rw [if_pos hc] at h
    have hb : ¬ (1000000000000 : Int) < numC (ds.zip bs) := by
      intro hlt; unfold resC at h; rw [if_pos hlt] at h; cases h
    have hc' := hc
    unfold numOk at hc
    rw [Bool.and_eq_true, Bool.and_eq_true, decide_eq_true_iff] at hc
    refine ⟨hc.1.1, hc.1.2, hc.2, by omega, ?_⟩
    unfold numV
    rw [if_pos hc']
    unfold resV
    rw [if_neg hb]
  · rw [if_neg hc] at h; cases h
/-- digits are recovered from their number -/
theorem digits_back {ds bs : List Int} (h : numE ds bs = 0) : digE (numV ds bs) bs = 0 ∧ digL (numV ds bs) bs = ds := by
  obtain ⟨h1, h2, h3, h4, h5⟩ := num_ok h
  have ha := (withB_true h1).2
  have hz : (ds.zip bs).take bs.length = ds.zip bs := List.take_of_length_le (by rw [List.length_zip]; omega)
  have hp : numC (ds.zip bs) = cutN (pre ds bs bs.length) := by
    have := num_pre h3 ha h2 bs.length (Nat.le_refl _)
    rwa [hz] at this
  have p0 := pre_nonneg h3 ha h2 bs.length (Nat.le_refl _)
  have hn : numV ds bs = pre ds bs bs.length := by
    rw [h5, hp]
    rw [hp] at h4
    unfold cutN at h4 ⊢
    split at h4
    · omega
    · rw [if_neg (by assumption)]
  have hq := quo_pre h3 ha h2 bs.length (Nat.le_refl _)
  rw [Nat.sub_self] at hq
  rw [hn]
  have hle : pre ds bs bs.length ≤ 1000000000000 := by rw [← hn, h5]; exact h4
  obtain ⟨e1, e2⟩ := dig_yes (inB_true.2 ⟨p0, hle⟩) h1 (by rw [hq]; exact Int.lt_irrefl _)
  rw [e1, e2]
  exact ⟨rfl, digits_pre h3 ha h2⟩
theorem dig_ok {m : Int} {bs : List Int} (h : digE m bs = 0) : 0 ≤ m ∧ m ≤ 1000000000000 ∧ withB 1 100 bs = true ∧ quo bs m bs.length = 0 ∧ digL m bs = digits bs m := by
  unfold digE at h
  by_cases hc : digOk m bs = true
  · have hc' := hc
    unfold digOk at hc
    rw [Bool.and_eq_true, Bool.and_eq_true, decide_eq_true_iff] at hc
    obtain ⟨a, b⟩ := inB_true.1 hc.1.1
    have := (quo_range a b (withB_true hc.1.2).2 bs.length (Nat.le_refl _)).1
    refine ⟨a, b, hc.1.2, by omega, ?_⟩
    unfold digL
    rw [if_pos hc']
  · rw [if_neg hc] at h; cases h
theorem pre_digits {m : Int} {bs : List Int} (h0 : quo bs m bs.length = 0) (k : Nat) (hk : k ≤ bs.length) : pre (digits bs m) bs k = quo bs m (bs.length - k) := by
  induction k with
  | zero => exact h0.symm
  | succ k ih =>
    have hi := ih (by omega)
    show pre (digits bs m) bs k * bs.getD k 1 + (digits bs m).getD k 0 = _
    have e : (digits bs m).getD k 0 = digit bs m k := by
      unfold digits
      rw [List.getD_eq_getElem?_getD, List.getElem?_map, List.getElem?_range (by omega)]
      rfl
    rw [hi, e, show bs.length - k = (bs.length - (k + 1)) + 1 by omega]
    show quo bs m (bs.length - (k + 1)) / bs.getD (bs.length - 1 - (bs.length - (k + 1))) 1 * bs.getD k 1 + quo bs m (bs.length - 1 - k) % bs.getD k 1 = _
    rw [show bs.length - 1 - (bs.length - (k + 1)) = k by omega, show bs.length - 1 - k = bs.length - (k + 1) by omega]
    exact Int.ediv_mul_add_emod _ _
/-- a number is recovered from its digits -/
theorem number_back {m : Int} {bs : List Int} (h : digE m bs = 0) : numE (digL m bs) bs = 0 ∧ numV (digL m bs) bs = m := by
  obtain ⟨m0, m1, hw, hq, hd⟩ := dig_ok h
  have ha := (withB_true hw).2
  have hl := digits_len bs m
  have hdg : digsB ((digits bs m).zip bs) = true := by
    unfold digsB
    rw [List.all_eq_true]
    intro p hp
    obtain ⟨i, hi, rfl⟩ := List.getElem_of_mem hp
    rw [List.length_zip] at hi
    obtain ⟨hb, b0, _⟩ := base_at ha (show i < bs.length by omega)
    rw [List.getElem_zip]
    have e : (digits bs m)[i]'(by omega) = digit bs m i := by simp [digits]
    have e2 : bs[i]'(by omega) = bs.getD i 1 := by
      rw [List.getElem?_eq_getElem (by omega)] at hb
      exact Option.some.inj hb
    rw [e, e2]
    refine inB_true.2 ⟨Int.emod_nonneg _ (by omega), ?_⟩
    have := Int.emod_lt_of_pos (quo bs m (bs.length - 1 - i)) (show 0 < bs.getD i 1 by omega)
    show quo bs m (bs.length - 1 - i) % bs.getD i 1 ≤ bs.getD i 1 - 1
    omega
  have hz : ((digits bs m).zip bs).take bs.length = (digits bs m).zip bs := List.take_of_length_le (by rw [List.length_zip]; omega)
  have hp : numC ((digits bs m).zip bs) = m := by
    have := num_pre hdg ha hl bs.length (Nat.le_refl _)
    rw [hz, pre_digits hq bs.length (Nat.le_refl _), Nat.sub_self] at this
    rw [this]
    show cutN m = m
    unfold cutN
    rw [if_neg (by omega)]
  obtain ⟨e1, e2⟩ := num_yes hw hl hdg
  rw [hd, e1, e2, hp]
  unfold resC resV
  rw [if_neg (by omega), if_neg (by omega)]
  exact ⟨rfl, rfl⟩

end Go.Proofs.Ytpabccgndhmcdaa
