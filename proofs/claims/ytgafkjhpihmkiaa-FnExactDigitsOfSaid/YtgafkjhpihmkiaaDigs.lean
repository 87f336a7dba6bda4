/- DigitsOf of the program and of the model answer alike: contracts and the law's walk. -/
import Derived.Test.YtgafkjhpihmkiaaNumb
import Derived.Test.YtgafkjhpihmkiaaOwn
namespace Go.Proofs.Ytgafkjhpihmkiaa
open Go.RowKit

/-- what is left of the number after the last j bases -/
def quo (xs : List Int) (m : Int) : Nat → Int
  | 0 => m
  | j + 1 => quo xs m j / xs.getD (xs.length - 1 - j) 1
def digit (xs : List Int) (m : Int) (i : Nat) : Int := quo xs m (xs.length - 1 - i) % xs.getD i 1
def digits (xs : List Int) (m : Int) : List Int := (List.range xs.length).map (digit xs m)
def digOk (m : Int) (xs : List Int) : Bool := inB m 0 1000000000000 && withB 1 100 xs && decide (quo xs m xs.length ≤ 0)
def digL (m : Int) (xs : List Int) : List Int := if digOk m xs then digits xs m else []
def digE (m : Int) (xs : List Int) : Int := if digOk m xs then 0 else 2
theorem dig_no {m : Int} {xs : List Int} (h : inB m 0 1000000000000 = false ∨ withB 1 100 xs = false ∨ 0 < quo xs m xs.length) : digL m xs = [] ∧ digE m xs = 2 := by
  have : digOk m xs = false := by
    unfold digOk
    rcases h with h | h | h
    · simp [h]
    · simp [h]
    · simp; omega
  simp [digL, digE, this]
theorem dig_yes {m : Int} {xs : List Int} (h : inB m 0 1000000000000 = true) (h2 : withB 1 100 xs = true) (h3 : ¬ 0 < quo xs m xs.length) : digL m xs = digits xs m ∧ digE m xs = 0 := by
  have : digOk m xs = true := by simp [digOk, h, h2]; omega
  simp [digL, digE, this]
theorem quo_range {xs : List Int} {m : Int} (h0 : 0 ≤ m) (h1 : m ≤ 1000000000000) (h : allIn 1 100 xs = true) (j : Nat) (hj : j ≤ xs.length) : 0 ≤ quo xs m j ∧ quo xs m j ≤ 1000000000000 := by
  induction j with
  | zero => exact ⟨h0, h1⟩
  | succ j ih =>
    have hi := ih (by omega)
    have hv : xs[xs.length - 1 - j]? = some (xs[xs.length - 1 - j]'(by omega)) := List.getElem?_eq_getElem (by omega)
    obtain ⟨b0, b1⟩ := allIn_at h hv
    unfold quo
    rw [List.getD_eq_getElem?_getD, hv, Option.getD_some]
    refine ⟨Int.ediv_nonneg hi.1 (by omega), ?_⟩
    have := Int.ediv_le_self (xs[xs.length - 1 - j]'(by omega)) hi.1
    omega
theorem quo_step {xs : List Int} {m v : Int} {n j : Nat} (hl : xs.length = n) (hv : xs[n - 1 - j]? = some v) : quo xs m j / v = quo xs m (j + 1) := by
  subst hl
  show _ = quo xs m j / xs.getD (xs.length - 1 - j) 1
  rw [List.getD_eq_getElem?_getD, hv, Option.getD_some]
/-- the row of digits after the last j of them -/
def digRow (xs : List Int) (m : Int) (n j i : Nat) : Value := .int .i64 (if n - j ≤ i then digit xs m i else 0)
theorem digRow_set {xs : List Int} {m v : Int} {n j : Nat} (hl : xs.length = n) (hj : j < n) (hv : xs[n - 1 - j]? = some v) (i : Nat) (hi : i < n) :
    (if i = n - 1 - j then Value.int .i64 (quo xs m j % v) else digRow xs m n j i) = digRow xs m n (j + 1) i := by
  unfold digRow
  by_cases h : i = n - 1 - j
  · subst h
    rw [if_pos rfl, if_pos (by omega)]
    unfold digit
    rw [List.getD_eq_getElem?_getD, hv, Option.getD_some, hl, show n - 1 - (n - 1 - j) = j by omega]
  · rw [if_neg h]
    by_cases h2 : n - j ≤ i
    · rw [if_pos h2, if_pos (by omega)]
    · rw [if_neg h2, if_neg (by omega)]
theorem digRow_end {xs : List Int} {m : Int} {n j : Nat} (hl : xs.length = n) (hj : n ≤ j) (i : Nat) (hi : i < n) : digRow xs m n j i = .int .i64 ((digits xs m).getD i 0) := by
  unfold digRow digits
  rw [if_pos (by omega), List.getD_eq_getElem?_getD, List.getElem?_map, List.getElem?_range (by omega)]
  rfl
theorem digits_len (xs : List Int) (m : Int) : (digits xs m).length = xs.length := by simp [digits]

set_option maxHeartbeats 1000000 in
theorem digitsOf_any (m : Int) (A : Option Addr) (n c : Nat) (xs : List Int) (w : World) (h : Ints w w.heap.size A n xs) (hn : n ≤ 1048576) :
    Calls Try.prog 32 #[.int .i64 m, .slice A n c] w (GivesInts w (digE m xs) (digL m xs)) := by
  have HL := Lib.hid h.len
  rcases hm : inB m 0 1000000000000 with _ | _
  · obtain ⟨e1, e2⟩ := dig_no (xs := xs) (.inl hm)
    rw [e1, e2]; clear e1 e2
    go_enter Try.func32, Try.ntmps32
    go_wp2_with (go_at_call 54; refine (isNumber_any _ _).mono ?_; rintro e w' ⟨rfl, rfl⟩)
    go_ret2
    exact ⟨none, 0, 0, rfl, Own.nil _ (Nat.le_refl _), by omega, Below.refl _ _⟩
  obtain ⟨m0, m1⟩ := inB_true.1 hm
  rcases hq : withB 1 100 xs with _ | _
  · obtain ⟨e1, e2⟩ := dig_no (m := m) (.inr (.inl hq))
    rw [e1, e2]; clear e1 e2
    go_enter Try.func32, Try.ntmps32
    go_wp2_with (first | (go_at_call 54; refine (isNumber_any _ _).mono ?_; rintro e w' ⟨rfl, rfl⟩) | (go_at_call 63; refine (areBases_any _ _ _ xs _ h hn).mono ?_; rintro e w' ⟨rfl, rfl⟩))
    go_ret2
    exact ⟨none, 0, 0, rfl, Own.nil _ (Nat.le_refl _), by omega, Below.refl _ _⟩
  have HM := Lib.hid hm
  have HQ := Lib.hid hq
  have HA := Lib.hid (withB_true hq).2
  have hmk := run_make_row' (P := Try.prog) 24 2 (.int .i64 0) 8 Try.underlying24 Try.info2' rfl .i64 .i64 n (by omega) (by omega)
  go_enter Try.func32, Try.ntmps32
  go_wp2_with (first | (go_at_call 54; refine (isNumber_any _ _).mono ?_; rintro e w' ⟨rfl, rfl⟩) | (go_at_call 63; refine (areBases_any _ _ _ xs _ h hn).mono ?_; rintro e w' ⟨rfl, rfl⟩))
  clear hmk hm hq
  go_loopw [0, 7] (fun q i wr => ∃ j : Nat, j ≤ n ∧ i = .int .i64 ((n : Int) - 1 - j) ∧ q = .int .i64 (quo xs m j) ∧ wr.rowIs w.heap.size 2 n (digRow xs m n j) ∧ Below w.heap.size w wr) (fun _ i _ => (intOf i + 1).toNat)
  case atStart =>
    refine ⟨0, Nat.zero_le _, by go_num, rfl, (World.rowIs_made w (.int .i64 0) n 2).congr (fun i hi => by unfold digRow; rw [if_neg (by omega)]), (Below.refl _ _).alloc (Nat.le_refl _) _⟩
  case round =>
    obtain ⟨j, hj, rfl, rfl, hrow, hb⟩ := hrel
    obtain ⟨r0, r1⟩ := quo_range m0 m1 HA.out j (by rw [HL.out]; exact hj)
    by_cases hlt : j < n
    · obtain ⟨ad, v, rfl, hab, hv, hc⟩ := (h.below hb).at_ (show n - 1 - j < n by omega)
      obtain ⟨b0, b1⟩ := allIn_at HA.out hv
      have hcw : ∀ u, (wr.setCell ⟨w.heap.size, n - 1 - j, none⟩ u).cell? (ad.add (n - 1 - j)) = some (.int .i64 v) := fun u =>
        (World.cell?_setCell_other _ _ _ _ (fun e => by have := congrArg Addr.block e; rw [block_of_add] at this; simp at this; omega)).trans hc
      have hst := hrow.cell (show n - 1 - j < n by omega)
      have hfz := hrow.frozen (n - 1 - j)
      have HS := Lib.hid (quo_step (m := m) HL.out hv)
      have HV := Lib.hid hv
      clear hv
      have HR := Lib.hid hrow
      clear hrow
      have ix1 : ((n : Int) - 1 - j).toNat = n - 1 - j := by omega
      have ix2 : 0 ≤ (n : Int) - 1 - j := by omega
      have ix3 : (n : Int) - 1 - j < n := by omega
      go_wp2
      go_roundw
      case rel => clear ix1 ix2 ix3; exact ⟨j + 1, by omega, by go_num, by rw [HS.out], (HR.out.set (n - 1 - j) (.int .i64 (quo xs m j % v))).congr (fun i hi => digRow_set HL.out hlt HV.out i hi), hb.setCell (by simp) _⟩
      case measure => clear ix1 ix2 ix3; simp [intOf]; omega
    · have HJ := Lib.hid (show j = n by omega)
      have hge : ¬ 0 ≤ (n : Int) - 1 - j := by omega
      have hrow' := hrow.congr (fun i hi => digRow_end (m := m) HL.out (by omega) i hi)
      have HO := Lib.hid (Own.of_row hrow' (by rw [digits_len, HL.out]) (Nat.le_refl _))
      clear hrow hrow'
      by_cases hz : 0 < quo xs m j
      · have HY := Lib.hid (dig_no (m := m) (xs := xs) (.inr (.inr (by rw [HL.out, ← HJ.out]; exact hz))))
        go_wp2
        go_ret2
        refine ⟨none, 0, 0, ret_si HY.out.2.symm, ?_, by omega, hb⟩
        rw [HY.out.1]
        exact Own.nil _ (Nat.le_refl _)
      · have HY := Lib.hid (dig_yes (m := m) (xs := xs) HM.out HQ.out (by rw [HL.out, ← HJ.out]; exact hz))
        go_wp2
        go_ret2
        refine ⟨some ⟨w.heap.size, 0, none⟩, n, n, ret_si HY.out.2.symm, ?_, hn, hb⟩
        rw [HY.out.1]
        exact HO.out

set_option maxHeartbeats 1000000 in
theorem specDigitsOf_any (m : Int) (A : Option Addr) (n c : Nat) (xs : List Int) (w : World) (h : Ints w w.heap.size A n xs) (hn : n ≤ 1048576) :
    Calls Try.prog 33 #[.int .i64 m, .slice A n c] w (GivesInts w (digE m xs) (digL m xs)) := by
  have HL := Lib.hid h.len
  rcases hm : inB m 0 1000000000000 with _ | _
  · obtain ⟨e1, e2⟩ := dig_no (xs := xs) (.inl hm)
    rw [e1, e2]; clear e1 e2
    go_enter Try.func33, Try.ntmps33
    go_wp2_with (go_at_call 56; refine (l01Is_any _ _).mono ?_; rintro e w' ⟨rfl, rfl⟩)
    go_ret2
    exact ⟨none, 0, 0, rfl, Own.nil _ (Nat.le_refl _), by omega, Below.refl _ _⟩
  obtain ⟨m0, m1⟩ := inB_true.1 hm
  rcases hq : withB 1 100 xs with _ | _
  · obtain ⟨e1, e2⟩ := dig_no (m := m) (.inr (.inl hq))
    rw [e1, e2]; clear e1 e2
    go_enter Try.func33, Try.ntmps33
    go_wp2_with (first | (go_at_call 56; refine (l01Is_any _ _).mono ?_; rintro e w' ⟨rfl, rfl⟩) | (go_at_call 64; refine (l01Bases_any _ _ _ xs _ h hn).mono ?_; rintro e w' ⟨rfl, rfl⟩))
    go_ret2
    exact ⟨none, 0, 0, rfl, Own.nil _ (Nat.le_refl _), by omega, Below.refl _ _⟩
  have HM := Lib.hid hm
  have HQ := Lib.hid hq
  have HA := Lib.hid (withB_true hq).2
  have hmk := run_make_row' (P := Try.prog) 24 2 (.int .i64 0) 8 Try.underlying24 Try.info2' rfl .i64 .i64 n (by omega) (by omega)
  go_enter Try.func33, Try.ntmps33
  go_wp2_with (first | (go_at_call 56; refine (l01Is_any _ _).mono ?_; rintro e w' ⟨rfl, rfl⟩) | (go_at_call 64; refine (l01Bases_any _ _ _ xs _ h hn).mono ?_; rintro e w' ⟨rfl, rfl⟩))
  clear hmk hm hq
  go_loopw [0, 7] (fun q i wr => ∃ j : Nat, j ≤ n ∧ i = .int .i64 ((n : Int) - 1 - j) ∧ q = .int .i64 (quo xs m j) ∧ wr.rowIs w.heap.size 2 n (digRow xs m n j) ∧ Below w.heap.size w wr) (fun _ i _ => (intOf i + 1).toNat)
  case atStart =>
    refine ⟨0, Nat.zero_le _, by go_num, rfl, (World.rowIs_made w (.int .i64 0) n 2).congr (fun i hi => by unfold digRow; rw [if_neg (by omega)]), (Below.refl _ _).alloc (Nat.le_refl _) _⟩
  case round =>
    obtain ⟨j, hj, rfl, rfl, hrow, hb⟩ := hrel
    obtain ⟨r0, r1⟩ := quo_range m0 m1 HA.out j (by rw [HL.out]; exact hj)
    by_cases hlt : j < n
    · obtain ⟨ad, v, rfl, hab, hv, hc⟩ := (h.below hb).at_ (show n - 1 - j < n by omega)
      obtain ⟨b0, b1⟩ := allIn_at HA.out hv
      have hcw : ∀ u, (wr.setCell ⟨w.heap.size, n - 1 - j, none⟩ u).cell? (ad.add (n - 1 - j)) = some (.int .i64 v) := fun u =>
        (World.cell?_setCell_other _ _ _ _ (fun e => by have := congrArg Addr.block e; rw [block_of_add] at this; simp at this; omega)).trans hc
      have hst := hrow.cell (show n - 1 - j < n by omega)
      have hfz := hrow.frozen (n - 1 - j)
      have HS := Lib.hid (quo_step (m := m) HL.out hv)
      have HV := Lib.hid hv
      clear hv
      have HR := Lib.hid hrow
      clear hrow
      have ix1 : ((n : Int) - 1 - j).toNat = n - 1 - j := by omega
      have ix2 : 0 ≤ (n : Int) - 1 - j := by omega
      have ix3 : (n : Int) - 1 - j < n := by omega
      go_wp2
      go_roundw
      case rel => clear ix1 ix2 ix3; exact ⟨j + 1, by omega, by go_num, by rw [HS.out], (HR.out.set (n - 1 - j) (.int .i64 (quo xs m j % v))).congr (fun i hi => digRow_set HL.out hlt HV.out i hi), hb.setCell (by simp) _⟩
      case measure => clear ix1 ix2 ix3; simp [intOf]; omega
    · have HJ := Lib.hid (show j = n by omega)
      have hge : ¬ 0 ≤ (n : Int) - 1 - j := by omega
      have hrow' := hrow.congr (fun i hi => digRow_end (m := m) HL.out (by omega) i hi)
      have HO := Lib.hid (Own.of_row hrow' (by rw [digits_len, HL.out]) (Nat.le_refl _))
      clear hrow hrow'
      by_cases hz : 0 < quo xs m j
      · have HY := Lib.hid (dig_no (m := m) (xs := xs) (.inr (.inr (by rw [HL.out, ← HJ.out]; exact hz))))
        go_wp2
        go_ret2
        refine ⟨none, 0, 0, ret_si HY.out.2.symm, ?_, by omega, hb⟩
        rw [HY.out.1]
        exact Own.nil _ (Nat.le_refl _)
      · have HY := Lib.hid (dig_yes (m := m) (xs := xs) HM.out HQ.out (by rw [HL.out, ← HJ.out]; exact hz))
        go_wp2
        go_ret2
        refine ⟨some ⟨w.heap.size, 0, none⟩, n, n, ret_si HY.out.2.symm, ?_, hn, hb⟩
        rw [HY.out.1]
        exact HO.out

set_option maxHeartbeats 1000000 in
theorem lawDigits_any (m : Int) (A : Option Addr) (n c : Nat) (xs : List Int) (W : World) (h : Ints W W.heap.size A n xs) :
    Calls Try.prog 10 #[.int .i64 m, .slice A n c] W fun e w' => e = .returned (.bool true) ∧ Below W.heap.size W w' := by
  by_cases hn : n ≤ 1048576
  · go_enter Try.func10, Try.ntmps10
    go_wp2_with fail
    refine (toInt64S_any _ _ _ xs _ h hn).mono ?_
    rintro e w1 ⟨g1, rfl, _, r1, c1⟩
    have i1 := Ints.of_row r1 h.len
    clear r1
    go_wp2_with fail
    refine (specDigitsOf_any m _ _ _ xs _ i1 hn).mono ?_
    rintro e w2 ⟨Aw, nw, cw, rfl, ow2, hnw, b2⟩
    have c2 := below_trans' c1 b2
    have ow2size := c2.size
    clear i1 c1 b2
    go_wp2_with fail
    refine (toInt64S_any _ _ _ xs _ (h.on c2) hn).mono ?_
    rintro e w3 ⟨g3, rfl, hg3, r3, b3⟩
    have ox3 := Own.of_row r3 h.len hg3
    have ow3 := ow2.below b3
    have c3 := below_trans' c2 b3
    have s3 := b3.size
    clear r3 c2 b3 hg3
    go_wp2_with fail
    refine (digitsOf_any m _ _ _ xs _ ox3.ints hn).mono ?_
    rintro e w4 ⟨Ag, ng, cg, rfl, og4, hng, b4⟩
    obtain rfl : nw = ng := by rw [← ow2.len, ← og4.len]
    have ox4 := ox3.below b4
    have ow4 := ow3.below b4
    have c4 := below_trans' c3 b4
    have s4 := b4.size
    clear c3 b4 ox3 ow3 ow2
    go_wp2_with fail
    refine (eqInts_true _ _ _ _ _ _ _ og4.ints ow4.ints hnw).mono ?_
    rintro e w5 ⟨rfl, b5⟩
    have ox5 := ox4.below b5
    have ow5 := ow4.below b5
    have og5 := og4.below b5
    have c5 := below_trans' c4 b5
    clear c4 b5 ox4 ow4 og4
    go_wp2_with fail
    refine (toInt64S_any _ _ _ xs _ (h.on c5) hn).mono ?_
    rintro e w6 ⟨g6, rfl, _, r6, b6⟩
    have i6 := Ints.of_row r6 h.len
    have ox6 := ox5.below b6
    have ow6 := ow5.below b6
    have og6 := og5.below b6
    have c6 := below_trans' c5 b6
    clear r6 c5 b6 ox5 ow5 og5
    go_wp2_with fail
    refine (eqInts_true _ _ _ _ _ _ _ ox6.ints i6 hn).mono ?_
    rintro e w7 ⟨rfl, b7⟩
    have ox7 := ox6.below b7
    have ow7 := ow6.below b7
    have og7 := og6.below b7
    have c7 := below_trans' c6 b7
    clear c6 b7 ox6 ow6 og6 i6
    go_wp2_with fail
    refine (markInts_any _ _ _ _ 1 _ _ _ ox7 hn (by omega) (by omega)).mono ?_
    rintro e w8 ⟨rfl, _, row, hgr, hrow⟩
    have ow8 := ow7.apart hgr (fun g e => .inr (hrow g e).1)
    have og8 := og7.apart hgr (fun g e => .inl (hrow g e).2)
    have c8 := below_grown c7 hgr (fun g e => by have := (hrow g e).1; omega)
    clear hgr hrow row c7 ox7 ow7 og7
    go_wp2_with fail
    refine (eqInts_true _ _ _ _ _ _ _ og8.ints ow8.ints hnw).mono ?_
    rintro e w9 ⟨rfl, b9⟩
    have ow9 := ow8.below b9
    have og9 := og8.below b9
    have c9 := below_trans' c8 b9
    clear b9 ow8 og8 c8
    go_wp2_with fail
    refine (markInts_any _ _ _ _ 1 _ _ _ og9 hnw (by omega) (by omega)).mono ?_
    rintro e w10 ⟨rfl, og10, row, hgr, hrow⟩
    have ow10 := ow9.apart hgr (fun g e => .inr (by have := (hrow g e).1; omega))
    have c10 := below_grown c9 hgr (fun g e => by have := (hrow g e).1; omega)
    clear hgr hrow row c9 ow9 og9
    go_wp2_with fail
    refine (heldInts_any _ _ _ 1 _ og10.ints hnw (by omega) (by omega)).mono ?_
    rintro e w' ⟨rfl, rfl⟩
    have q1 : ((1 + (nw : Int)) != (1 + (nw : Int))) = false := by simp
    go_wp2_with fail
    refine (toInt64S_any _ _ _ xs _ (h.on c10) hn).mono ?_
    rintro e w11 ⟨g11, rfl, _, r11, b11⟩
    have i11 := Ints.of_row r11 h.len
    have ow11 := ow10.below b11
    have og11 := og10.below b11
    have c11 := below_trans' c10 b11
    clear r11 b11 c10 ow10 og10
    go_wp2_with fail
    refine (digitsOf_any m _ _ _ xs _ i11 hn).mono ?_
    rintro e w12 ⟨Ah, nh, ch, rfl, oh12, hnh, b12⟩
    obtain rfl : nw = nh := by rw [← ow11.len, ← oh12.len]
    have ow12 := ow11.below b12
    have og12 := og11.below b12
    have c12 := below_trans' c11 b12
    clear b12 c11 ow11 og11 i11
    go_wp2_with fail
    refine (eqInts_true _ _ _ _ _ _ _ oh12.ints ow12.ints hnw).mono ?_
    rintro e w13 ⟨rfl, b13⟩
    have og13 := og12.below b13
    have c13 := below_trans' c12 b13
    clear b13 c12 ow12 og12 oh12
    go_wp2_with fail
    refine (heldInts_any _ _ _ 1 _ og13.ints hnw (by omega) (by omega)).mono ?_
    rintro e w' ⟨rfl, rfl⟩
    go_wp2
    go_ret
    exact ⟨rfl, c13⟩
  · go_enter Try.func10, Try.ntmps10
    go_wp2
    go_ret
    exact ⟨rfl, Below.refl _ _⟩

end Go.Proofs.Ytgafkjhpihmkiaa
