/- Contracts of the number functions of chapter 1, of the program and of the model. -/
import Derived.Test.YtpabccgndhmcdaaRows
import Derived.Test.YtpabccgndhmcdaaMath
import Derived.WalkKit
import Derived.WalkSpells
import Derived.Lib.Hide
import Derived.WalkLawsBesides
namespace Go.Proofs.Ytpabccgndhmcdaa
open Go.RowKit

theorem ret_int {k : IntKind} {a b : Int} (h : a = b) : Ending.returned (.int k a) = .returned (.int k b) := by rw [h]
theorem ret_bool {a b : Bool} (h : a = b) : Ending.returned (.bool a) = .returned (.bool b) := by rw [h]
theorem ret_int2 {a b c d : Int} (h : a = c) (h2 : b = d) : Ending.returned (.tuple #[.int .i64 a, .int .i64 b]) = .returned (.tuple #[.int .i64 c, .int .i64 d]) := by rw [h, h2]

theorem isWithin_any (n a b : Int) (w : World) :
    Calls Try.prog 62 #[.int .i64 n, .int .i64 a, .int .i64 b] w fun e w' => e = .returned (.bool (inB n a b)) ∧ w = w' := by
  by_cases h1 : a ≤ n
  · by_cases h2 : n ≤ b
    all_goals
      go_enter Try.func62, Try.ntmps62
      go_wp2
      go_ret
      refine ⟨ret_bool ?_, rfl⟩
      simp [inB, h1, h2]
  · go_enter Try.func62, Try.ntmps62
    go_wp2
    go_ret
    refine ⟨ret_bool ?_, rfl⟩
    simp [inB]; omega

theorem l01In_any (n a b : Int) (w : World) :
    Calls Try.prog 63 #[.int .i64 n, .int .i64 a, .int .i64 b] w fun e w' => e = .returned (.bool (inB n a b)) ∧ w = w' := by
  by_cases h1 : a ≤ n
  · by_cases h2 : n ≤ b
    all_goals
      go_enter Try.func63, Try.ntmps63
      go_wp2
      go_ret
      refine ⟨ret_bool ?_, rfl⟩
      simp [inB, h1, h2]
  · go_enter Try.func63, Try.ntmps63
    go_wp2
    go_ret
    refine ⟨ret_bool ?_, rfl⟩
    simp [inB]; omega

theorem isNumber_any (n : Int) (w : World) :
    Calls Try.prog 76 #[.int .i64 n] w fun e w' => e = .returned (.bool (inB n 0 1000000000000)) ∧ w = w' := by
  go_enter Try.func76, Try.ntmps76
  go_wp2_with (go_at_call 62; refine (isWithin_any _ _ _ _).mono ?_; rintro e w' ⟨rfl, rfl⟩)
  go_ret
  exact ⟨rfl, rfl⟩

theorem cappedProduct_any (a b : Int) (w : World) (ha : 0 ≤ a) (_ : a ≤ 1000000000001) (hb : 0 ≤ b) (_ : b ≤ 1000000000000) :
    Calls Try.prog 77 #[.int .i64 a, .int .i64 b] w fun e w' => e = .returned (.int .i64 (capM a b)) ∧ w = w' := by
  go_enter Try.func77, Try.ntmps77
  go_wp2
  · go_ret
    exact ⟨ret_int (by rw [capM_comm, capM_over (by assumption) (by assumption)]), rfl⟩
  · go_ret
    have h := @capM_under b a (by assumption) (by omega)
    have h0 := Int.mul_nonneg ha hb
    rw [Int.mul_comm b a] at h
    exact ⟨ret_int (by rw [capM_comm, h.1, IntWalk.wrap64_in _ ⟨by omega, by omega⟩]), rfl⟩
  · obtain rfl : b = 0 := by omega
    go_ret
    exact ⟨ret_int (by simp [capM, wrap64]), rfl⟩

theorem numberOrLimit_any (n : Int) (w : World) :
    Calls Try.prog 78 #[.int .i64 n] w fun e w' => e = .returned (.tuple #[.int .i64 (resV n), .int .i64 (resC n)]) ∧ w = w' := by
  go_enter Try.func78, Try.ntmps78
  go_wp2
  · go_ret2
    exact ⟨ret_int2 (by unfold resV; rw [if_pos (by assumption)]) (by unfold resC; rw [if_pos (by assumption)]), rfl⟩
  · go_ret2
    exact ⟨ret_int2 (by unfold resV; rw [if_neg (by omega)]) (by unfold resC; rw [if_neg (by omega)]), rfl⟩

end Go.Proofs.Ytpabccgndhmcdaa
