/- KeyFault and IsKey of the program. -/
import Derived.Test.YtjoknbknhfnggaaRule
import Derived.Laws.EntriesVeiled
namespace Go.Proofs.Ytjoknbknhfnggaa
open Go.RowKit

theorem keyRules_any (w : World) :
    Calls Try.prog 127 #[] w fun e w' => e = .returned (.agg #[.func (.func 129) #[] #[], .func (.func 130) #[] #[], .func (.func 131) #[] #[], .func (.func 132) #[] #[], .func (.func 133) #[] #[]]) ∧ Below w.heap.size w w' := by
  go_enter Try.func127, Try.ntmps127
  go_wp2
  refine bodyPost_ret (v := .agg #[.func (.func 129) #[] #[], .func (.func 130) #[] #[], .func (.func 131) #[] #[], .func (.func 132) #[] #[], .func (.func 133) #[] #[]]) (by simp [results, Try.results127, go_sem]) rfl ⟨rfl, ?_⟩
  exact (Below.refl w.heap.size w).alloc (Nat.le_refl _) _

/-- the rules by their places -/
def ruleB (m : Mk) (xs : List Int) : Nat → Bool
  | 0 => (xs.length : Int) == m.C
  | 1 => allIn 0 (m.D - 1) xs
  | 2 => stepsB m.S xs
  | 3 => runsB m.M xs
  | _ => decide (m.L ≤ m.C - xs.length + kinds xs)
theorem fault_at {m : Mk} {xs : List Int} {k : Nat} (hall : ∀ j, j < k → ruleB m xs j = true) (hk : k < 5) (h : ruleB m xs k = false) : faultV m xs = (k : Int) + 1 := by
  have g : ∀ j, j < k → ruleB m xs j = true := hall
  match k, hk, h with
  | 0, _, h => exact fault1 (by unfold ruleB at h; simpa using h)
  | 1, _, h => exact fault2 (by have := g 0 (by omega); unfold ruleB at this; simpa using this) h
  | 2, _, h => exact fault3 (by have := g 0 (by omega); unfold ruleB at this; simpa using this) (g 1 (by omega)) h
  | 3, _, h => exact fault4 (by have := g 0 (by omega); unfold ruleB at this; simpa using this) (g 1 (by omega)) (g 2 (by omega)) h
  | 4, _, h =>
    have e : (xs.length : Int) = m.C := by have := g 0 (by omega); unfold ruleB at this; simpa using this
    exact fault5 e (g 1 (by omega)) (g 2 (by omega)) (g 3 (by omega)) (by unfold ruleB at h; simp at h; omega)
theorem fault_none {m : Mk} {xs : List Int} {k : Nat} (hall : ∀ j, j < k → ruleB m xs j = true) (hk : ¬ k < 5) : faultV m xs = 0 := by
  have g : ∀ j, j < 5 → ruleB m xs j = true := fun j hj => hall j (by omega)
  have e : (xs.length : Int) = m.C := by have := g 0 (by omega); unfold ruleB at this; simpa using this
  exact fault0 e (g 1 (by omega)) (g 2 (by omega)) (g 3 (by omega)) (by have := g 4 (by omega); unfold ruleB at this; simp at this; omega)

def kfV (m : Mk) (xs : List Int) : Int := if m.ok then faultV m xs else 0
def kfE (m : Mk) : Int := if m.ok then 0 else 1

set_option maxRecDepth 100000 in
set_option maxHeartbeats 2000000 in
theorem keyFault_any (m : Mk) (A : Option Addr) (n c : Nat) (xs : List Int) (w : World) (h : Ints w w.heap.size A n xs) (hn : n ≤ 1048576) :
    Calls Try.prog 116 #[.agg #[.int .i64 m.C, .int .i64 m.D, .int .i64 m.S, .int .i64 m.M, .int .i64 m.L], .slice A n c] w
      fun e w' => e = .returned (.tuple #[.int .i64 (kfV m xs), .int .i64 (kfE m)]) ∧ Below w.heap.size w w' := by
  have HL := Lib.hid h.len
  have b0 := (Below.refl w.heap.size w).alloc (Nat.le_refl _) (.cells #[.int .i64 m.C, .int .i64 m.D, .int .i64 m.S, .int .i64 m.M, .int .i64 m.L] 25)
  have hx := Boxed.new w 25 m
  rcases hm : m.ok with _ | _
  · unfold kfV kfE
    rw [hm]
    go_enter Try.func116, Try.ntmps116
    go_wp2_with fail
    refine (isMaker_any m _).mono ?_
    rw [hm]
    rintro e w1 ⟨rfl, b1⟩
    go_wp2
    go_ret2
    exact ⟨rfl, below_trans' b0 b1⟩
  · unfold kfV kfE
    rw [hm]
    obtain ⟨m1, m2, m3, m4, m5, m6, m7, m8, m9, m10, m11⟩ := Mk.ok_true hm
    have HM := Lib.hid hm
    clear hm
    go_enter Try.func116, Try.ntmps116
    go_wp2_with fail
    refine (isMaker_any m _).mono ?_
    rw [HM.out]
    rintro e w1 ⟨rfl, b1⟩
    have x1 := hx.on b1
    have c1 := below_trans' b0 b1
    clear b0 b1 hx
    go_wp2_with fail
    refine (keyRules_any _).mono ?_
    rintro e w2 ⟨rfl, b2⟩
    have x2 := x1.on b2
    have c2 := below_trans' c1 b2
    clear x1 c1 b2
    go_wp2
    go_loopw [12] (fun i wr => ∃ k : Nat, k ≤ 5 ∧ i = .int .i64 k ∧ Hid (∀ j, j < k → ruleB m xs j = true) ∧ Boxed wr w.heap.size 25 m ∧ Below w.heap.size w wr) (fun i _ => 5 - (intOf i).toNat)
    case atStart => exact ⟨0, by omega, rfl, Lib.hid (fun j hj => absurd hj (by omega)), x2, c2⟩
    case round =>
      obtain ⟨k, hk, rfl, hall, hbox, hb⟩ := hrel
      have hi := h.on hb
      obtain ⟨q0, q1, q2, q3, q4⟩ := hbox.cells
      have HX := Lib.hid hbox
      clear hbox x2 c2
      by_cases hlt : k < 5
      · have hlk : k = 0 ∨ k = 1 ∨ k = 2 ∨ k = 3 ∨ k = 4 := by omega
        rcases hlk with rfl | rfl | rfl | rfl | rfl
        · have hix : ∀ w, (Instr.index 132 (.agg #[.func (.func 129) #[] #[], .func (.func 130) #[] #[], .func (.func 131) #[] #[], .func (.func 132) #[] #[], .func (.func 133) #[] #[]]) (.int .i64 0)).run Try.prog w = .ok (.func (.func 129) #[] #[]) w := fun _ => by kernel_rfl
          rcases hq : ruleB m xs 0 with _ | _
          · have HF := Lib.hid (fault_at hall.out hlt hq)
            have hq' : ((n : Int) == m.C) = false := by unfold ruleB at hq; rw [HL.out] at hq; exact hq
            clear hq
            go_wp2_with fail
            refine (hasAllChambers_any m _ _ _ _).mono ?_
            rw [hq']
            rintro e w3 ⟨rfl, b3⟩
            clear hix
            go_wp2
            go_ret2
            exact ⟨ret_int2 (by simpa using HF.out.symm) rfl, hb.trans (b3.mono hb.size)⟩
          · have HF := Lib.hid (all_next hall.out hq)
            have hq' : ((n : Int) == m.C) = true := by unfold ruleB at hq; rw [HL.out] at hq; exact hq
            clear hq
            go_wp2_with fail
            refine (hasAllChambers_any m _ _ _ _).mono ?_
            rw [hq']
            rintro e w3 ⟨rfl, b3⟩
            have X3 := Lib.hid (HX.out.on b3)
            have B3 := Lib.hid (hb.trans (b3.mono hb.size))
            clear hix b3
            go_wp2
            go_roundw
            case rel => exact ⟨1, by omega, rfl, HF, X3.out, B3.out⟩
            case measure => simp [intOf]
        · have hix : ∀ w, (Instr.index 132 (.agg #[.func (.func 129) #[] #[], .func (.func 130) #[] #[], .func (.func 131) #[] #[], .func (.func 132) #[] #[], .func (.func 133) #[] #[]]) (.int .i64 1)).run Try.prog w = .ok (.func (.func 130) #[] #[]) w := fun _ => by kernel_rfl
          rcases hq : ruleB m xs 1 with _ | _
          · have HF := Lib.hid (fault_at hall.out hlt hq)
            have hq' : (allIn 0 (m.D - 1) xs) = false := by exact hq
            clear hq
            go_wp2_with fail
            refine (hasOnlyDepths_any m _ _ _ xs _ hi hn m3 m4).mono ?_
            rw [hq']
            rintro e w3 ⟨rfl, b3⟩
            clear hix
            go_wp2
            go_ret2
            exact ⟨ret_int2 (by simpa using HF.out.symm) rfl, hb.trans (b3.mono hb.size)⟩
          · have HF := Lib.hid (all_next hall.out hq)
            have hq' : (allIn 0 (m.D - 1) xs) = true := by exact hq
            clear hq
            go_wp2_with fail
            refine (hasOnlyDepths_any m _ _ _ xs _ hi hn m3 m4).mono ?_
            rw [hq']
            rintro e w3 ⟨rfl, b3⟩
            have X3 := Lib.hid (HX.out.on b3)
            have B3 := Lib.hid (hb.trans (b3.mono hb.size))
            clear hix b3
            go_wp2
            go_roundw
            case rel => exact ⟨2, by omega, rfl, HF, X3.out, B3.out⟩
            case measure => simp [intOf]
        · have hix : ∀ w, (Instr.index 132 (.agg #[.func (.func 129) #[] #[], .func (.func 130) #[] #[], .func (.func 131) #[] #[], .func (.func 132) #[] #[], .func (.func 133) #[] #[]]) (.int .i64 2)).run Try.prog w = .ok (.func (.func 131) #[] #[]) w := fun _ => by kernel_rfl
          rcases hq : ruleB m xs 2 with _ | _
          · have HF := Lib.hid (fault_at hall.out hlt hq)
            have hq' : (stepsB m.S xs) = false := by exact hq
            clear hq
            go_wp2_with fail
            refine (hasSmallSteps_any m _ _ _ xs _ hi hn HM.out (hall.out 1 (by omega))).mono ?_
            rw [hq']
            rintro e w3 ⟨rfl, b3⟩
            clear hix
            go_wp2
            go_ret2
            exact ⟨ret_int2 (by simpa using HF.out.symm) rfl, hb.trans (b3.mono hb.size)⟩
          · have HF := Lib.hid (all_next hall.out hq)
            have hq' : (stepsB m.S xs) = true := by exact hq
            clear hq
            go_wp2_with fail
            refine (hasSmallSteps_any m _ _ _ xs _ hi hn HM.out (hall.out 1 (by omega))).mono ?_
            rw [hq']
            rintro e w3 ⟨rfl, b3⟩
            have X3 := Lib.hid (HX.out.on b3)
            have B3 := Lib.hid (hb.trans (b3.mono hb.size))
            clear hix b3
            go_wp2
            go_roundw
            case rel => exact ⟨3, by omega, rfl, HF, X3.out, B3.out⟩
            case measure => simp [intOf]
        · have hix : ∀ w, (Instr.index 132 (.agg #[.func (.func 129) #[] #[], .func (.func 130) #[] #[], .func (.func 131) #[] #[], .func (.func 132) #[] #[], .func (.func 133) #[] #[]]) (.int .i64 3)).run Try.prog w = .ok (.func (.func 132) #[] #[]) w := fun _ => by kernel_rfl
          rcases hq : ruleB m xs 3 with _ | _
          · have HF := Lib.hid (fault_at hall.out hlt hq)
            have hq' : (runsB m.M xs) = false := by exact hq
            clear hq
            go_wp2_with fail
            refine (hasShortRuns_any m _ _ _ xs _ hi hn).mono ?_
            rw [hq']
            rintro e w3 ⟨rfl, b3⟩
            clear hix
            go_wp2
            go_ret2
            exact ⟨ret_int2 (by simpa using HF.out.symm) rfl, hb.trans (b3.mono hb.size)⟩
          · have HF := Lib.hid (all_next hall.out hq)
            have hq' : (runsB m.M xs) = true := by exact hq
            clear hq
            go_wp2_with fail
            refine (hasShortRuns_any m _ _ _ xs _ hi hn).mono ?_
            rw [hq']
            rintro e w3 ⟨rfl, b3⟩
            have X3 := Lib.hid (HX.out.on b3)
            have B3 := Lib.hid (hb.trans (b3.mono hb.size))
            clear hix b3
            go_wp2
            go_roundw
            case rel => exact ⟨4, by omega, rfl, HF, X3.out, B3.out⟩
            case measure => simp [intOf]
        · have hix : ∀ w, (Instr.index 132 (.agg #[.func (.func 129) #[] #[], .func (.func 130) #[] #[], .func (.func 131) #[] #[], .func (.func 132) #[] #[], .func (.func 133) #[] #[]]) (.int .i64 4)).run Try.prog w = .ok (.func (.func 133) #[] #[]) w := fun _ => by kernel_rfl
          rcases hq : ruleB m xs 4 with _ | _
          · have HF := Lib.hid (fault_at hall.out hlt hq)
            have hq' : (decide (m.L ≤ m.C - n + kinds xs)) = false := by unfold ruleB at hq; rw [HL.out] at hq; exact hq
            clear hq
            go_wp2_with fail
            refine (hasEnoughCuts_any m _ _ _ xs _ hi hn HM.out (hall.out 1 (by omega))).mono ?_
            rw [hq']
            rintro e w3 ⟨rfl, b3⟩
            clear hix
            go_wp2
            go_ret2
            exact ⟨ret_int2 (by simpa using HF.out.symm) rfl, hb.trans (b3.mono hb.size)⟩
          · have HF := Lib.hid (all_next hall.out hq)
            have hq' : (decide (m.L ≤ m.C - n + kinds xs)) = true := by unfold ruleB at hq; rw [HL.out] at hq; exact hq
            clear hq
            go_wp2_with fail
            refine (hasEnoughCuts_any m _ _ _ xs _ hi hn HM.out (hall.out 1 (by omega))).mono ?_
            rw [hq']
            rintro e w3 ⟨rfl, b3⟩
            have X3 := Lib.hid (HX.out.on b3)
            have B3 := Lib.hid (hb.trans (b3.mono hb.size))
            clear hix b3
            go_wp2
            go_roundw
            case rel => exact ⟨5, by omega, rfl, HF, X3.out, B3.out⟩
            case measure => simp [intOf]
      · have HF := Lib.hid (fault_none hall.out hlt)
        have HK := Lib.hid (show k = 5 by omega)
        go_wp2
        go_ret2
        exact ⟨ret_int2 HF.out.symm rfl, hb⟩

end Go.Proofs.Ytjoknbknhfnggaa
