/- DigitsOf of the program and of the model answer alike: contracts and the law's walk. -/
import Derived.Test.YtpabccgndhmcdaaNumb
import Derived.Test.YtpabccgndhmcdaaOwn
namespace Go.Proofs.Ytpabccgndhmcdaa
open Go.RowKit

/-- what is left of the number after the last j bases -/
def quo (xs : List Int) (m : Int) : Nat → Int
  | 0 => m
  | j + 1 => quo xs m j / xs.getD (xs.length - 1 - j) 1
def digit (xs : List Int) (m : Int) (i : Nat) : Int := quo xs m (xs.length - 1 - i) % xs.getD i 1
def digits (xs : List Int) (m : Int) : List Int := (List.range xs.length).map (digit xs m)
def digOk (m : Int) (xs : List Int) : Bool := inB m 0 1000000000000 && withB 1 100 xs && decide (quo xs m xs.length ≤ 0)
def digL (m : Int) (xs : List Int) : List Int := if digOk m xs then digits xs m else []
def digE (m : Int) (xs : List Int) : Int := if digOk m xs then 0 else 2
theorem dig_no {m : Int} {xs : List Int} (h : inB m 0 1000000000000 = false ∨ withB 1 100 xs = false ∨ 0 < quo xs m xs.length) : digL m xs = [] ∧ digE m xs = 2 := by
  have : digOk m xs = false := by
    unfold digOk
    rcases h with h | h | h
    · simp [h]
    · simp [h]
    · simp; omega
  simp [digL, digE, this]
theorem dig_yes {m : Int} {xs : List Int} (h : inB m 0 1000000000000 = true) (h2 : withB 1 100 xs = true) (h3 : ¬ 0 < quo xs m xs.length) : digL m xs = digits xs m ∧ digE m xs = 0 := by
  have : digOk m xs = true := by simp [digOk, h, h2]; omega
  simp [digL, digE, this]
theorem quo_range {xs : List Int} {m : Int} (h0 : 0 ≤ m) (h1 : m ≤ 1000000000000) (h : allIn 1 100 xs = true) (j : Nat) (hj : j ≤ xs.length) : 0 ≤ quo xs m j ∧ quo xs m j ≤ 1000000000000 := by
  induction j with
  | zero => exact ⟨h0, h1⟩
  | succ j ih =>
    have hi := ih (by omega)
    have hv : xs[xs.length - 1 - j]? = some (xs[xs.length - 1 - j]'(by omega)) := List.getElem?_eq_getElem (by omega)
    obtain ⟨b0, b1⟩ := allIn_at h hv
    unfold quo
    rw [List.getD_eq_getElem?_getD, hv, Option.getD_some]
    refine ⟨Int.ediv_nonneg hi.1 (by omega), ?_⟩
    have := Int.ediv_le_self (xs[xs.length - 1 - j]'(by omega)) hi.1
    omega
theorem quo_step {xs : List Int} {m v : Int} {n j : Nat} (hl : xs.length = n) (hv : xs[n - 1 - j]? = some v) : quo xs m j / v = quo xs m (j + 1) := by
  subst hl
  show _ = quo xs m j / xs.getD (xs.length - 1 - j) 1
  rw [List.getD_eq_getElem?_getD, hv, Option.getD_some]
/-- the row of digits after the last j of them -/
def digRow (xs : List Int) (m : Int) (n j i : Nat) : Value := .int .i64 (if n - j ≤ i then digit xs m i else 0)
theorem digRow_set {xs : List Int} {m v : Int} {n j : Nat} (hl : xs.length = n) (hj : j < n) (hv : xs[n - 1 - j]? = some v) (i : Nat) (hi : i < n) :
    (if i = n - 1 - j then Value.int .i64 (quo xs m j % v) else digRow xs m n j i) = digRow xs m n (j + 1) i := by
  unfold digRow
  by_cases h : i = n - 1 - j
  · subst h
    rw [if_pos rfl, if_pos (by omega)]
    unfold digit
    rw [List.getD_eq_getElem?_getD, hv, Option.getD_some, hl, show n - 1 - (n - 1 - j) = j by omega]
  · rw [if_neg h]
    by_cases h2 : n - j ≤ i
    · rw [if_pos h2, if_pos (by omega)]
    · rw [if_neg h2, if_neg (by omega)]
theorem digRow_end {xs : List Int} {m : Int} {n j : Nat} (hl : xs.length = n) (hj : n ≤ j) (i : Nat) (hi : i < n) : digRow xs m n j i = .int .i64 ((digits xs m).getD i 0) := by
  unfold digRow digits
  rw [if_pos (by omega), List.getD_eq_getElem?_getD, List.getElem?_map, List.getElem?_range (by omega)]
  rfl
theorem digits_len (xs : List Int) (m : Int) : (digits xs m).length = xs.length := by simp [digits]

set_option maxHeartbeats 1000000 in
theorem digitsOf_any (m : Int) (A : Option Addr) (n c : Nat) (xs : List Int) (w : World) (h : Ints w w.heap.size A n xs) (hn : n ≤ 1048576) :
    Calls Try.prog 81 #[.int .i64 m, .slice A n c] w (GivesInts w (digE m xs) (digL m xs)) := by
  have HL := Lib.hid h.len
  rcases hm : inB m 0 1000000000000 with _ | _
  · obtain ⟨e1, e2⟩ := dig_no (xs := xs) (.inl hm)
    rw [e1, e2]; clear e1 e2
    go_enter Try.func81, Try.ntmps81
    go_wp2_with (go_at_call 76; refine (isNumber_any _ _).mono ?_; rintro e w' ⟨rfl, rfl⟩)
    go_ret2
    exact ⟨none, 0, 0, rfl, Own.nil _ (Nat.le_refl _), by omega, Below.refl _ _⟩
  obtain ⟨m0, m1⟩ := inB_true.1 hm
  rcases hq : withB 1 100 xs with _ | _
  · obtain ⟨e1, e2⟩ := dig_no (m := m) (.inr (.inl hq))
    rw [e1, e2]; clear e1 e2
    go_enter Try.func81, Try.ntmps81
    go_wp2_with (first | (go_at_call 76; refine (isNumber_any _ _).mono ?_; rintro e w' ⟨rfl, rfl⟩) | (go_at_call 83; refine (areBases_any _ _ _ xs _ h hn).mono ?_; rintro e w' ⟨rfl, rfl⟩))
    go_ret2
    exact ⟨none, 0, 0, rfl, Own.nil _ (Nat.le_refl _), by omega, Below.refl _ _⟩
  have HM := Lib.hid hm
  have HQ := Lib.hid hq
  have HA := Lib.hid (withB_true hq).2
  have hmk := run_make_row' (P := Try.prog) 24 2 (.int .i64 0) 8 Try.underlying24 Try.info2' rfl .i64 .i64 n (by omega) (by omega)
  go_enter Try.func81, Try.ntmps81
  go_wp2_with (first | (go_at_call 76; refine (isNumber_any _ _).mono ?_; rintro e w' ⟨rfl, rfl⟩) | (go_at_call 83; refine (areBases_any _ _ _ xs _ h hn).mono ?_; rintro e w' ⟨rfl, rfl⟩))
  clear hmk hm hq
  go_loopw [0, 7] (fun q i wr => ∃ j : Nat, j ≤ n ∧ i = .int .i64 ((n : Int) - 1 - j) ∧ q = .int .i64 (quo xs m j) ∧ wr.rowIs w.heap.size 2 n (digRow xs m n j) ∧ Below w.heap.size w wr) (fun _ i _ => (intOf i + 1).toNat)
  case atStart =>
    refine ⟨0, Nat.zero_le _, by go_num, rfl, (World.rowIs_made w (.int .i64 0) n 2).congr (fun i hi => by unfold digRow; rw [if_neg (by omega)]), (Below.refl _ _).alloc (Nat.le_refl _) _⟩
  case round =>
    obtain ⟨j, hj, rfl, rfl, hrow, hb⟩ := hrel
    obtain ⟨r0, r1⟩ := quo_range m0 m1 HA.out j (by rw [HL.out]; exact hj)
    by_cases hlt : j < n
    · obtain ⟨ad, v, rfl, hab, hv, hc⟩ := (h.below hb).at_ (show n - 1 - j < n by omega)
      obtain ⟨b0, b1⟩ := allIn_at HA.out hv
      have hcw : ∀ u, (wr.setCell ⟨w.heap.size, n - 1 - j, none⟩ u).cell? (ad.add (n - 1 - j)) = some (.int .i64 v) := fun u =>
        (World.cell?_setCell_other _ _ _ _ (fun e => by have := congrArg Addr.block e; rw [block_of_add] at this; simp at this; omega)).trans hc
      have hst := hrow.cell (show n - 1 - j < n by omega)
      have hfz := hrow.frozen (n - 1 - j)
      have HS := Lib.hid (quo_step (m := m) HL.out hv)
      have HV := Lib.hid hv
      clear hv
      have HR := Lib.hid hrow
      clear hrow
      have ix1 : ((n : Int) - 1 - j).toNat = n - 1 - j := by omega
      have ix2 : 0 ≤ (n : Int) - 1 - j := by omega
      have ix3 : (n : Int) - 1 - j < n := by omega
      go_wp2
      go_roundw
      case rel => clear ix1 ix2 ix3; exact ⟨j + 1, by omega, by go_num, by rw [HS.out], (HR.out.set (n - 1 - j) (.int .i64 (quo xs m j % v))).congr (fun i hi => digRow_set HL.out hlt HV.out i hi), hb.setCell (by simp) _⟩
      case measure => clear ix1 ix2 ix3; simp [intOf]; omega
    · have HJ := Lib.hid (show j = n by omega)
      have hge : ¬ 0 ≤ (n : Int) - 1 - j := by omega
      have hrow' := hrow.congr (fun i hi => digRow_end (m := m) HL.out (by omega) i hi)
      have HO := Lib.hid (Own.of_row hrow' (by rw [digits_len, HL.out]) (Nat.le_refl _))
      clear hrow hrow'
      by_cases hz : 0 < quo xs m j
      · have HY := Lib.hid (dig_no (m := m) (xs := xs) (.inr (.inr (by rw [HL.out, ← HJ.out]; exact hz))))
        go_wp2
        go_ret2
        refine ⟨none, 0, 0, ret_si HY.out.2.symm, ?_, by omega, hb⟩
        rw [HY.out.1]
        exact Own.nil _ (Nat.le_refl _)
      · have HY := Lib.hid (dig_yes (m := m) (xs := xs) HM.out HQ.out (by rw [HL.out, ← HJ.out]; exact hz))
        go_wp2
        go_ret2
        refine ⟨some ⟨w.heap.size, 0, none⟩, n, n, ret_si HY.out.2.symm, ?_, hn, hb⟩
        rw [HY.out.1]
        exact HO.out

end Go.Proofs.Ytpabccgndhmcdaa
