/- Texts as numbers: the model's readers. -/
import Derived.Test.YtgbicepneonkfaaDoorRow
namespace Go.Proofs.YtgbicepneonkfaaDoor
open Go.RowKit

def isDig (c : UInt8) : Bool := decide (48 ≤ c.toNat) && decide (c.toNat ≤ 57)
def valD (l : List UInt8) : Nat := l.foldl (fun a c => 10 * a + (c.toNat - 48)) 0
def digsOk (l : List UInt8) : Bool := decide (1 ≤ l.length) && decide (l.length ≤ 13) && l.all isDig
def valOut (l : List UInt8) : Int := if digsOk l then valD l else 0
def rdB (l : List UInt8) : Bool := digsOk l && decide (Lib.decDigits (valD l) = l)
theorem isDig_iff {c : UInt8} : isDig c = true ↔ 48 ≤ c.toNat ∧ c.toNat ≤ 57 := by simp [isDig]
theorem valD_snoc (l : List UInt8) (c : UInt8) : valD (l ++ [c]) = 10 * valD l + (c.toNat - 48) := by simp [valD, List.foldl_append]
theorem valD_from (l : List UInt8) (a : Nat) (h : l.all isDig = true) : l.foldl (fun a c => 10 * a + (c.toNat - 48)) a < (a + 1) * 10 ^ l.length := by
  induction l generalizing a with
  | nil => simp
  | cons c r ih =>
    rw [List.all_cons, Bool.and_eq_true] at h
    have h2 := isDig_iff.1 h.1
    have h3 := ih (10 * a + (c.toNat - 48)) h.2
    rw [List.foldl_cons, List.length_cons, Nat.pow_succ]
    refine Nat.lt_of_lt_of_le h3 ?_
    rw [Nat.mul_comm (10 ^ r.length) 10, ← Nat.mul_assoc]
    exact Nat.mul_le_mul_right _ (by omega)
theorem valD_lt (l : List UInt8) (h : l.all isDig = true) : valD l < 10 ^ l.length := by
  have := valD_from l 0 h
  simpa [valD] using this
theorem pow_13 {k : Nat} (h : k ≤ 13) : 10 ^ k ≤ 10000000000000 := by
  have := Nat.pow_le_pow_right (n := 10) (by decide) h
  simpa using this
theorem take_byte (s : ByteArray) (k : Nat) (h : k < s.size) : s.data.toList.take (k + 1) = s.data.toList.take k ++ [s[k]] := by
  rw [List.take_succ_eq_append_getElem (by simpa using h)]; rfl
theorem bytes_len (s : ByteArray) : s.data.toList.length = s.size := Array.length_toList
theorem take_bytes (s : ByteArray) (k : Nat) (h : ¬ k < s.size) : s.data.toList.take k = s.data.toList := List.take_of_length_le (by rw [bytes_len]; omega)
theorem digsOk_no {s : ByteArray} (h : s.size < 1 ∨ 13 < s.size) : digsOk s.data.toList = false := by
  unfold digsOk
  rw [bytes_len]
  rcases h with h | h
  · rw [decide_eq_false (p := 1 ≤ s.size) (by omega)]; rfl
  · rw [decide_eq_false (p := s.size ≤ 13) (by omega), Bool.and_false]; rfl
theorem digsOk_bad {s : ByteArray} {k : Nat} (hk : k < s.size) (h : isDig s[k] = false) : digsOk s.data.toList = false := by
  have : s.data.toList.all isDig = false := by
    rw [List.all_eq_false]
    exact ⟨s[k], List.getElem_mem (l := s.data.toList) (by rw [bytes_len]; exact hk), by simp [h]⟩
  unfold digsOk
  rw [this, Bool.and_false]
theorem digsOk_yes {s : ByteArray} (h : 1 ≤ s.size) (h2 : s.size ≤ 13) (h3 : s.data.toList.all isDig = true) : digsOk s.data.toList = true := by
  unfold digsOk
  rw [bytes_len, h3, decide_eq_true h, decide_eq_true h2]; rfl
theorem out_no {l : List UInt8} (h : digsOk l = false) : valOut l = 0 ∧ rdB l = false := by simp [valOut, rdB, h]
theorem out_yes {l : List UInt8} (h : digsOk l = true) : valOut l = valD l ∧ rdB l = decide (Lib.decDigits (valD l) = l) := by simp [valOut, rdB, h]

/-- what a call answers that gives a number and a yes or no -/
def GivesNum (w : World) (n : Int) (b : Bool) (e : Ending) (w' : World) : Prop := e = .returned (.tuple #[.int .i64 n, .bool b]) ∧ Below w.heap.size w w'
theorem ret_nb {a b : Int} {x y : Bool} (h : a = b) (h2 : x = y) : Ending.returned (.tuple #[.int .i64 a, .bool x]) = .returned (.tuple #[.int .i64 b, .bool y]) := by rw [h, h2]

set_option maxHeartbeats 1000000 in
theorem l01Value_any (s : ByteArray) (w : World) :
    Calls Tryd.prog 45 #[.string s] w (GivesNum w (valOut s.data.toList) (rdB s.data.toList)) := by
  by_cases h1 : s.size < 1
  · have HY := Lib.hid (out_no (digsOk_no (.inl h1)))
    go_enter Tryd.func45, Tryd.ntmps45
    go_wp2
    go_ret2
    exact ⟨ret_nb HY.out.1.symm HY.out.2.symm, Below.refl _ _⟩
  by_cases h2 : 13 < s.size
  · have HY := Lib.hid (out_no (digsOk_no (.inr h2)))
    go_enter Tryd.func45, Tryd.ntmps45
    go_wp2
    go_ret2
    exact ⟨ret_nb HY.out.1.symm HY.out.2.symm, Below.refl _ _⟩
  go_enter Tryd.func45, Tryd.ntmps45
  go_wp2
  go_loop [4, 5] (fun n i => ∃ k : Nat, k ≤ s.size ∧ i = .int .i64 k ∧ n = .int .i64 (valD (s.data.toList.take k)) ∧ Hid ((s.data.toList.take k).all isDig = true)) (fun _ i => s.size - (intOf i).toNat)
  case atStart => exact ⟨0, Nat.zero_le _, rfl, rfl, Lib.hid rfl⟩
  case round =>
    obtain ⟨k, hk, rfl, rfl, hall⟩ := hrel
    have hv : valD (s.data.toList.take k) < 10000000000000 := by
      have := valD_lt _ hall.out
      have h3 : (s.data.toList.take k).length ≤ 13 := by rw [List.length_take]; omega
      have := pow_13 h3
      omega
    by_cases hlt : k < s.size
    · have hc := UInt8.toNat_lt s[k]
      have HT := Lib.hid (take_byte s k hlt)
      obtain ⟨V, hV⟩ : ∃ V, V = valD (s.data.toList.take k) := ⟨_, rfl⟩
      have HV := Lib.hid hV
      rw [← hV] at hv ⊢
      clear hV
      by_cases h3 : s[k].toNat < 48
      · have HY := Lib.hid (out_no (digsOk_bad hlt (by unfold isDig; rw [decide_eq_false (by omega)]; rfl)))
        go_wp2
        go_ret2
        exact ⟨ret_nb HY.out.1.symm HY.out.2.symm, Below.refl _ _⟩
      by_cases h4 : 57 < s[k].toNat
      · have HY := Lib.hid (out_no (digsOk_bad hlt (by unfold isDig; rw [decide_eq_false (p := s[k].toNat ≤ 57) (by omega), Bool.and_false])))
        go_wp2
        go_ret2
        exact ⟨ret_nb HY.out.1.symm HY.out.2.symm, Below.refl _ _⟩
      · go_wp2
        go_round
        case rel =>
          refine ⟨k + 1, by omega, by go_num, ?_, Lib.hid ?_⟩
          · rw [HT.out, valD_snoc, ← HV.out]
            refine congrArg _ ?_
            omega
          · rw [HT.out, List.all_append, hall.out]
            simp [isDig]; omega
        case measure => simp [intOf]; omega
    · have HX := Lib.hid (take_bytes s k hlt)
      have HO := Lib.hid (digsOk_yes (s := s) (by omega) (by omega) (by rw [← HX.out]; exact hall.out))
      have HY := Lib.hid (out_yes HO.out)
      go_wp2_with (go_at_call 85; refine (l01Dec_any _ _ (by omega)).mono ?_; rintro e w' ⟨t, rfl, ht, hm, hb⟩)
      go_ret2
      refine ⟨ret_nb (by rw [HX.out]; exact HY.out.1.symm) ?_, hb⟩
      have e : t.data.toList = Lib.decDigits (valD s.data.toList) := by
        have h := ht
        unfold Txt at h
        rw [HX.out] at h
        exact h
      rw [ByteArray.toList_eq, ByteArray.toList_eq, HY.out.2, e, Bool.eq_iff_iff]
      simp

end Go.Proofs.YtgbicepneonkfaaDoor
