/- PowerOf of the program and of the model answer alike: contracts and the law FnExactPowerOf's walk. -/
import Derived.Test.YtpabccgndhmcdaaNum
namespace Go.Proofs.Ytpabccgndhmcdaa
open Go.RowKit

def powOk (b x : Int) : Bool := inB b 0 1000000000000 && inB x 0 60
def powV (b x : Int) : Int := if powOk b x then resV (powC b x.toNat) else 0
def powE (b x : Int) : Int := if powOk b x then resC (powC b x.toNat) else 2
theorem pow_no {b x : Int} (h : inB b 0 1000000000000 = false ∨ inB x 0 60 = false) : powV b x = 0 ∧ powE b x = 2 := by
  have : powOk b x = false := by unfold powOk; rcases h with h | h <;> simp [h]
  simp [powV, powE, this]
theorem pow_yes {b x : Int} (h : inB b 0 1000000000000 = true) (h2 : inB x 0 60 = true) : powV b x = resV (powC b x.toNat) ∧ powE b x = resC (powC b x.toNat) := by
  have : powOk b x = true := by unfold powOk; simp [h, h2]
  simp [powV, powE, this]

theorem powerOf_any (b x : Int) (w : World) :
    Calls Try.prog 64 #[.int .i64 b, .int .i64 x] w fun e w' => e = .returned (.tuple #[.int .i64 (powV b x), .int .i64 (powE b x)]) ∧ w = w' := by
  rcases hb : inB b 0 1000000000000 with _ | _
  · obtain ⟨e1, e2⟩ := pow_no (b := b) (x := x) (.inl hb)
    rw [e1, e2]; clear e1 e2
    go_enter Try.func64, Try.ntmps64
    go_wp2_with (go_at_call 76; refine (isNumber_any _ _).mono ?_; rintro e w' ⟨rfl, rfl⟩)
    go_ret2
    exact ⟨rfl, rfl⟩
  · rcases hx : inB x 0 60 with _ | _
    · obtain ⟨e1, e2⟩ := pow_no (b := b) (x := x) (.inr hx)
      rw [e1, e2]; clear e1 e2
      go_enter Try.func64, Try.ntmps64
      go_wp2_with (first | (go_at_call 76; refine (isNumber_any _ _).mono ?_; rintro e w' ⟨rfl, rfl⟩) | (go_at_call 62; refine (isWithin_any _ _ _ _).mono ?_; rintro e w' ⟨rfl, rfl⟩))
      go_ret2
      exact ⟨rfl, rfl⟩
    · obtain ⟨e1, e2⟩ := pow_yes hb hx
      rw [e1, e2]; clear e1 e2
      obtain ⟨b0, b1⟩ := inB_true.1 hb
      obtain ⟨x0, x1⟩ := inB_true.1 hx
      go_enter Try.func64, Try.ntmps64
      go_wp2_with (first | (go_at_call 76; refine (isNumber_any _ _).mono ?_; rintro e w' ⟨rfl, rfl⟩) | (go_at_call 62; refine (isWithin_any _ _ _ _).mono ?_; rintro e w' ⟨rfl, rfl⟩))
      go_loop [6, 16] (fun p i => ∃ k : Nat, (k : Int) ≤ x ∧ i = .int .i64 k ∧ p = .int .i64 (powC b k)) (fun _ i => (x - intOf i).toNat)
      case atStart => exact ⟨0, by omega, rfl, rfl⟩
      case round =>
        obtain ⟨k, hk, rfl, rfl⟩ := hrel
        have hr := powC_range b0 k
        obtain ⟨r0, r1⟩ := hr
        by_cases hlt : (k : Int) < x
        · go_wp2_with (go_at_call 77; refine (cappedProduct_any _ _ _ (by omega) (by omega) (by omega) (by omega)).mono ?_; rintro e w' ⟨rfl, rfl⟩)
          go_round
          case rel => exact ⟨k + 1, by omega, by go_num, rfl⟩
          case measure => simp [intOf]; omega
        · have hkx : x.toNat = k := by omega
          have HK := Lib.hid hkx
          clear hkx
          go_wp2_with (go_at_call 78; refine (numberOrLimit_any _ _).mono ?_; rintro e w' ⟨rfl, rfl⟩)
          go_ret2
          exact ⟨ret_int2 (by rw [HK.out]) (by rw [HK.out]), rfl⟩

end Go.Proofs.Ytpabccgndhmcdaa
