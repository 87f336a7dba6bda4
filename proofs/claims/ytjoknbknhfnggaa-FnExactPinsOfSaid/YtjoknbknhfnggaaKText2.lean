/- KeyText of the model, and the law. -/
import Derived.Test.YtjoknbknhfnggaaKText
import Derived.Test.YtjoknbknhfnggaaLFault
namespace Go.Proofs.Ytjoknbknhfnggaa
open Go.RowKit

def signsV (xs : List Int) : List Value := xs.map (fun v => Value.int .u8 (48 + v))
theorem signsV_step {xs : List Int} {k : Nat} {v : Int} (hv : xs[k]? = some v) : signsV (xs.take k) ++ [.int .u8 (48 + v)] = signsV (xs.take (k + 1)) := by
  obtain ⟨hk, rfl⟩ := List.getElem?_eq_some_iff.1 hv
  unfold signsV
  rw [List.take_succ_eq_append_getElem hk, List.map_append]; rfl

theorem l02Code_any (m : Mk) (A : Option Addr) (n c : Nat) (xs : List Int) (w : World) (h : Ints w w.heap.size A n xs) (hn : n ≤ 1048576) (hc0 : n ≤ c) (hcm : c ≤ 9223372036854775807) :
    Calls Try.prog 121 #[.agg #[.int .i64 m.C, .int .i64 m.D, .int .i64 m.S, .int .i64 m.M, .int .i64 m.L], .slice A n c] w
      fun e w' => e = .returned (.int .i64 (ktE m xs)) ∧ Below w.heap.size w w' := by
  have b0 := (Below.refl w.heap.size w).alloc (Nat.le_refl _) (.cells #[.int .i64 m.C, .int .i64 m.D, .int .i64 m.S, .int .i64 m.M, .int .i64 m.L] 25)
  have hx := Boxed.new w 25 m
  rcases hm : m.ok with _ | _
  · rw [(kt_bad (xs := xs) hm).2]
    go_enter Try.func121, Try.ntmps121
    go_wp2_with fail
    refine (specIsMaker_any m _).mono ?_
    rw [hm]
    rintro e w1 ⟨rfl, b1⟩
    have c1 := below_trans' b0 b1
    go_wp2
    go_ret
    exact ⟨rfl, c1⟩
  have HM := Lib.hid hm
  clear hm
  rcases hk : isKeyB m xs with _ | _
  all_goals
    first
      | (rw [(kt_no HM.out hk).2]; have hf : (faultV m xs != 0) = true := by (unfold isKeyB at hk; rw [HM.out] at hk; simpa using hk))
      | (rw [(kt_yes HM.out hk).2]; have hf : (faultV m xs != 0) = false := by (unfold isKeyB at hk; rw [HM.out] at hk; simpa using hk))
    clear hk
    go_enter Try.func121, Try.ntmps121
    go_wp2_with fail
    refine (specIsMaker_any m _).mono ?_
    rw [HM.out]
    rintro e w1 ⟨rfl, b1⟩
    have x1 := hx.on b1
    have c1 := below_trans' b0 b1
    obtain ⟨q0, q1, q2, q3, q4⟩ := x1.cells
    clear hx b0 b1 x1
    go_wp2_with fail
    clear q0 q1 q2 q3 q4
    refine (l02Fault_any m _ _ _ xs _ (h.on c1) hn hc0 hcm HM.out).mono ?_
    rintro e w2 ⟨rfl, b2⟩
    have c2 := below_trans' c1 b2
    go_wp2
    go_ret
    exact ⟨rfl, c2⟩

end Go.Proofs.Ytjoknbknhfnggaa
