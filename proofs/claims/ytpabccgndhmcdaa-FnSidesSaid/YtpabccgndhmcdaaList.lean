/- Contracts of the functions of chapter 1 that look at lists: ranges, sums, products, rising lists; of the program and of the model. -/
import Derived.Test.YtpabccgndhmcdaaInts
namespace Go.Proofs.Ytpabccgndhmcdaa
open Go.RowKit

def allIn (lo hi : Int) (xs : List Int) : Bool := xs.all (fun v => inB v lo hi)
def withB (lo hi : Int) (xs : List Int) : Bool := decide (xs.length ≤ 100) && allIn lo hi xs
theorem allIn_no {lo hi v : Int} {xs : List Int} {k : Nat} (hv : xs[k]? = some v) (h : inB v lo hi = false) : allIn lo hi xs = false := not_all (p := fun v => inB v lo hi) hv h
theorem allIn_step {lo hi v : Int} {xs : List Int} {k : Nat} (hv : xs[k]? = some v) (hk : allIn lo hi (xs.take k) = true) (h : inB v lo hi = true) : allIn lo hi (xs.take (k + 1)) = true := by
  unfold allIn at *
  rw [take_all (p := fun v => inB v lo hi) hv, hk, h]; rfl
theorem withB_long {lo hi : Int} {xs : List Int} {n : Nat} (hl : xs.length = n) (h : 100 < n) : withB lo hi xs = false := by
  unfold withB
  rw [hl, decide_eq_false (by omega)]; rfl
theorem withB_short {lo hi : Int} {xs : List Int} {n : Nat} (hl : xs.length = n) (h : n ≤ 100) : withB lo hi xs = allIn lo hi xs := by
  unfold withB
  rw [hl, decide_eq_true h]; rfl
theorem withB_no {lo hi : Int} {xs : List Int} (h : allIn lo hi xs = false) : withB lo hi xs = false := by unfold withB; rw [h, Bool.and_false]

theorem allIn_at {lo hi v : Int} {xs : List Int} {k : Nat} (h : allIn lo hi xs = true) (hv : xs[k]? = some v) : lo ≤ v ∧ v ≤ hi := by
  have := List.all_eq_true.1 h v (List.mem_of_getElem? hv)
  exact inB_true.1 this
theorem withB_true {lo hi : Int} {xs : List Int} (h : withB lo hi xs = true) : xs.length ≤ 100 ∧ allIn lo hi xs = true := by
  unfold withB at h
  simpa using h

theorem areWithin_any (A : Option Addr) (n c : Nat) (xs : List Int) (lo hi : Int) (w : World) (h : Ints w w.heap.size A n xs) (hn : n ≤ 1048576) :
    Calls Try.prog 71 #[.slice A n c, .int .i64 lo, .int .i64 hi] w fun e w' => e = .returned (.bool (withB lo hi xs)) ∧ w = w' := by
  have HL := Lib.hid h.len
  by_cases hs : n ≤ 100
  · rw [withB_short HL.out hs]
    go_enter Try.func71, Try.ntmps71
    go_wp2
    go_loop [14] (fun i => ∃ k : Nat, k ≤ n ∧ i = .int .i64 k ∧ Hid (allIn lo hi (xs.take k) = true)) (fun i => n - (intOf i).toNat)
    case atStart => exact ⟨0, Nat.zero_le _, rfl, Lib.hid rfl⟩
    case round =>
      obtain ⟨k, hk, rfl, hall⟩ := hrel
      by_cases hlt : k < n
      · obtain ⟨ad, v, rfl, hab, hv, hc⟩ := h.at_ hlt
        have HV := Lib.hid hv
        clear hv
        rcases hq : inB v lo hi with _ | _
        · go_wp2_with (go_at_call 62; refine (isWithin_any _ _ _ _).mono ?_; rintro e w' ⟨rfl, rfl⟩)
          go_ret
          exact ⟨ret_bool (allIn_no HV.out hq).symm, rfl⟩
        · go_wp2_with (go_at_call 62; refine (isWithin_any _ _ _ _).mono ?_; rintro e w' ⟨rfl, rfl⟩)
          go_round
          case rel => exact ⟨k + 1, by omega, by go_num, Lib.hid (allIn_step HV.out hall.out hq)⟩
          case measure => simp [intOf]; omega
      · have HA : Hid (allIn lo hi xs = true) := by rw [← take_end HL.out hlt]; exact hall
        clear hall
        go_wp2
        go_ret
        exact ⟨ret_bool HA.out.symm, rfl⟩
  · rw [withB_long HL.out (by omega)]
    go_enter Try.func71, Try.ntmps71
    go_wp2
    go_ret
    exact ⟨rfl, rfl⟩

theorem areBases_any (A : Option Addr) (n c : Nat) (xs : List Int) (w : World) (h : Ints w w.heap.size A n xs) (hn : n ≤ 1048576) :
    Calls Try.prog 83 #[.slice A n c] w fun e w' => e = .returned (.bool (withB 1 100 xs)) ∧ w = w' := by
  go_enter Try.func83, Try.ntmps83
  go_wp2_with (go_at_call 71; refine (areWithin_any _ _ _ xs _ _ _ h hn).mono ?_; rintro e w' ⟨rfl, rfl⟩)
  go_ret
  exact ⟨rfl, rfl⟩

end Go.Proofs.Ytpabccgndhmcdaa
