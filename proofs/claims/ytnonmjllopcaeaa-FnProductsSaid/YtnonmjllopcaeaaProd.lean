/- ProductOf of the program and of the model answer alike: contracts and the law's walk. -/
import Derived.Test.YtnonmjllopcaeaaSum
namespace Go.Proofs.Ytnonmjllopcaeaa
open Go.RowKit

def prodC (xs : List Int) : Int := xs.foldl capM 1
def hasB (x : Int) (xs : List Int) : Bool := xs.any (fun v => v == x)
theorem prod_take {xs : List Int} {k : Nat} {v : Int} (hv : xs[k]? = some v) : prodC (xs.take (k + 1)) = capM (prodC (xs.take k)) v := by
  obtain ⟨hk, rfl⟩ := List.getElem?_eq_some_iff.1 hv
  unfold prodC
  rw [List.take_succ_eq_append_getElem hk, List.foldl_append]
  rfl
theorem prod_range {xs : List Int} (h : allIn 0 1000000000000 xs = true) (k : Nat) (hk : k ≤ xs.length) : 0 ≤ prodC (xs.take k) ∧ prodC (xs.take k) ≤ 1000000000001 := by
  induction k with
  | zero => simp [prodC]
  | succ k ih =>
    have hv : xs[k]? = some xs[k] := List.getElem?_eq_getElem (by omega)
    have h1 := allIn_at h hv
    have h2 := ih (by omega)
    rw [prod_take hv]
    exact capM_range h2.1 h1.1
theorem capM_zero (a : Int) : capM a 0 = 0 := by simp [capM]
theorem capM_zero' (a : Int) : capM 0 a = 0 := by simp [capM]
theorem fold_zero (xs : List Int) : xs.foldl capM 0 = 0 := by
  induction xs with
  | nil => rfl
  | cons x xs ih => rw [List.foldl_cons, capM_zero', ih]
theorem fold_has (xs : List Int) (a : Int) (h : hasB 0 xs = true) : xs.foldl capM a = 0 := by
  induction xs generalizing a with
  | nil => cases h
  | cons x xs ih =>
    rw [List.foldl_cons]
    by_cases hx : x = 0
    · subst hx; rw [capM_zero, fold_zero]
    · refine ih _ ?_
      unfold hasB at h ⊢
      rw [List.any_cons] at h
      simpa [hx] using h
theorem prod_has {xs : List Int} (h : hasB 0 xs = true) : prodC xs = 0 := fold_has xs 1 h

theorem hasB_yes {x v : Int} {xs : List Int} {k : Nat} (hv : xs[k]? = some v) (h : v = x) : hasB x xs = true :=
  List.any_eq_true.2 ⟨v, List.mem_of_getElem? hv, by simp [h]⟩
theorem hasB_step {x v : Int} {xs : List Int} {k : Nat} (hv : xs[k]? = some v) (hk : hasB x (xs.take k) = false) (h : v ≠ x) : hasB x (xs.take (k + 1)) = false := by
  obtain ⟨hl, rfl⟩ := List.getElem?_eq_some_iff.1 hv
  unfold hasB at *
  rw [List.take_succ_eq_append_getElem hl, List.any_append, hk]
  simp [h]

theorem l01Has_any (A : Option Addr) (n c : Nat) (xs : List Int) (x : Int) (w : World) (h : Ints w w.heap.size A n xs) (hn : n ≤ 1048576) :
    Calls Try.prog 37 #[.slice A n c, .int .i64 x] w fun e w' => e = .returned (.bool (hasB x xs)) ∧ w = w' := by
  have HL := Lib.hid h.len
  go_enter Try.func37, Try.ntmps37
  go_wp2
  go_loop [5] (fun i => ∃ k : Nat, k ≤ n ∧ i = .int .i64 k ∧ Hid (hasB x (xs.take k) = false)) (fun i => n - (intOf i).toNat)
  case atStart => exact ⟨0, Nat.zero_le _, rfl, Lib.hid rfl⟩
  case round =>
    obtain ⟨k, hk, rfl, hall⟩ := hrel
    by_cases hlt : k < n
    · obtain ⟨ad, v, rfl, hab, hv, hc⟩ := h.at_ hlt
      have HV := Lib.hid hv
      clear hv
      by_cases hq : v = x
      · subst hq
        go_wp2
        go_ret
        exact ⟨ret_bool (hasB_yes HV.out rfl).symm, rfl⟩
      · have hq' : (v == x) = false := by simpa using hq
        have HQ := Lib.hid hq
        clear hq
        go_wp2
        go_round
        case rel => exact ⟨k + 1, by omega, by go_num, Lib.hid (hasB_step HV.out hall.out HQ.out)⟩
        case measure => simp [intOf]; omega
    · have HA : Hid (hasB x xs = false) := by rw [← take_end HL.out hlt]; exact hall
      clear hall
      go_wp2
      go_ret
      exact ⟨ret_bool HA.out.symm, rfl⟩

def prodV (xs : List Int) : Int := if withB 0 1000000000000 xs then resV (prodC xs) else 0
def prodE (xs : List Int) : Int := if withB 0 1000000000000 xs then resC (prodC xs) else 2
theorem prod_no {xs : List Int} (h : withB 0 1000000000000 xs = false) : prodV xs = 0 ∧ prodE xs = 2 := by simp [prodV, prodE, h]
theorem prod_yes {xs : List Int} (h : withB 0 1000000000000 xs = true) : prodV xs = resV (prodC xs) ∧ prodE xs = resC (prodC xs) := by simp [prodV, prodE, h]

theorem productOf_any (A : Option Addr) (n c : Nat) (xs : List Int) (w : World) (h : Ints w w.heap.size A n xs) (hn : n ≤ 1048576) :
    Calls Try.prog 8 #[.slice A n c] w fun e w' => e = .returned (.tuple #[.int .i64 (prodV xs), .int .i64 (prodE xs)]) ∧ w = w' := by
  have HL := Lib.hid h.len
  rcases hq : withB 0 1000000000000 xs with _ | _
  · obtain ⟨e1, e2⟩ := prod_no hq
    rw [e1, e2]; clear e1 e2
    go_enter Try.func8, Try.ntmps8
    go_wp2_with (go_at_call 33; refine (areNumbers_any _ _ _ xs _ h hn).mono ?_; rintro e w' ⟨rfl, rfl⟩)
    go_ret2
    exact ⟨rfl, rfl⟩
  · obtain ⟨e1, e2⟩ := prod_yes hq
    rw [e1, e2]; clear e1 e2
    go_enter Try.func8, Try.ntmps8
    go_wp2_with (go_at_call 33; refine (areNumbers_any _ _ _ xs _ h hn).mono ?_; rintro e w' ⟨rfl, rfl⟩)
    obtain ⟨hs, hall⟩ := withB_true hq
    have HA := Lib.hid hall
    clear hs hall hq
    go_loop [4, 12] (fun s i => ∃ k : Nat, k ≤ n ∧ i = .int .i64 k ∧ s = .int .i64 (prodC (xs.take k))) (fun _ i => n - (intOf i).toNat)
    case atStart => exact ⟨0, Nat.zero_le _, rfl, rfl⟩
    case round =>
      obtain ⟨k, hk, rfl, rfl⟩ := hrel
      obtain ⟨r0, r1⟩ := prod_range HA.out k (by have := HL.out; omega)
      by_cases hlt : k < n
      · obtain ⟨ad, v, rfl, hab, hv, hc⟩ := h.at_ hlt
        obtain ⟨v0, v1⟩ := allIn_at HA.out hv
        have HT := Lib.hid (prod_take hv)
        clear hv
        go_wp2_with (go_at_call 34; refine (cappedProduct_any _ _ _ (by omega) (by omega) (by omega) (by omega)).mono ?_; rintro e w' ⟨rfl, rfl⟩)
        go_round
        case rel => exact ⟨k + 1, by omega, by go_num, by rw [HT.out]⟩
        case measure => simp [intOf]; omega
      · have HX := Lib.hid (take_end HL.out hlt)
        go_wp2_with (go_at_call 35; refine (numberOrLimit_any _ _).mono ?_; rintro e w' ⟨rfl, rfl⟩)
        go_ret2
        exact ⟨ret_int2 (by rw [HX.out]) (by rw [HX.out]), rfl⟩

theorem specProductOf_any (A : Option Addr) (n c : Nat) (xs : List Int) (w : World) (h : Ints w w.heap.size A n xs) (hn : n ≤ 1048576) :
    Calls Try.prog 9 #[.slice A n c] w fun e w' => e = .returned (.tuple #[.int .i64 (prodV xs), .int .i64 (prodE xs)]) ∧ w = w' := by
  have HL := Lib.hid h.len
  rcases hq : withB 0 1000000000000 xs with _ | _
  · obtain ⟨e1, e2⟩ := prod_no hq
    rw [e1, e2]; clear e1 e2
    go_enter Try.func9, Try.ntmps9
    go_wp2_with (go_at_call 36; refine (l01Numbers_any _ _ _ xs _ h hn).mono ?_; rintro e w' ⟨rfl, rfl⟩)
    go_ret2
    exact ⟨rfl, rfl⟩
  · obtain ⟨e1, e2⟩ := prod_yes hq
    rw [e1, e2]; clear e1 e2
    rcases hz : hasB 0 xs with _ | _
    · go_enter Try.func9, Try.ntmps9
      go_wp2_with (first | (go_at_call 36; refine (l01Numbers_any _ _ _ xs _ h hn).mono ?_; rintro e w' ⟨rfl, rfl⟩) | (go_at_call 37; refine (l01Has_any _ _ _ xs _ _ h hn).mono ?_; rintro e w' ⟨rfl, rfl⟩))
      obtain ⟨hs, hall⟩ := withB_true hq
      have HA := Lib.hid hall
      clear hs hall hq hz
      go_loop [4, 5] (fun s i => ∃ k : Nat, k ≤ n ∧ i = .int .i64 k ∧ s = .int .i64 (prodC (xs.take k))) (fun _ i => n - (intOf i).toNat)
      case atStart => exact ⟨0, Nat.zero_le _, rfl, rfl⟩
      case round =>
        obtain ⟨k, hk, rfl, rfl⟩ := hrel
        obtain ⟨r0, r1⟩ := prod_range HA.out k (by have := HL.out; omega)
        by_cases hlt : k < n
        · obtain ⟨ad, v, rfl, hab, hv, hc⟩ := h.at_ hlt
          obtain ⟨v0, v1⟩ := allIn_at HA.out hv
          have HT := Lib.hid (prod_take hv)
          clear hv
          go_wp2_with (go_at_call 38; refine (l01Cut_any _ _ _ (by omega) (by omega) (by omega) (by omega)).mono ?_; rintro e w' ⟨rfl, rfl⟩)
          go_round
          case rel => exact ⟨k + 1, by omega, by go_num, by rw [HT.out]⟩
          case measure => simp [intOf]; omega
        · have HX := Lib.hid (take_end HL.out hlt)
          go_wp2_with (go_at_call 39; refine (l01Result_any _ _).mono ?_; rintro e w' ⟨rfl, rfl⟩)
          go_ret2
          exact ⟨ret_int2 (by rw [HX.out]) (by rw [HX.out]), rfl⟩
    · have HP := Lib.hid (prod_has hz)
      go_enter Try.func9, Try.ntmps9
      go_wp2_with (first | (go_at_call 36; refine (l01Numbers_any _ _ _ xs _ h hn).mono ?_; rintro e w' ⟨rfl, rfl⟩) | (go_at_call 37; refine (l01Has_any _ _ _ xs _ _ h hn).mono ?_; rintro e w' ⟨rfl, rfl⟩))
      go_ret2
      exact ⟨ret_int2 (by rw [HP.out]; rfl) (by rw [HP.out]; rfl), rfl⟩

end Go.Proofs.Ytnonmjllopcaeaa
