/- mayBegin of the program. -/
import Derived.Test.YtjoknbknhfnggaaKeyMath
namespace Go.Proofs.Ytjoknbknhfnggaa
open Go.RowKit

theorem may_no {m : Mk} {xs : List Int} {k : Nat} (hall : ∀ j, 1 ≤ j → j < k + 1 → ruleB m xs j = true) (hk : k < 4) (h : ruleB m xs (k + 1) = false) : mayB m xs = false := by
  match k, hk, h with
  | 0, _, h => unfold mayB; rw [show allIn 0 (m.D - 1) xs = false from h]; rfl
  | 1, _, h => unfold mayB; rw [show stepsB m.S xs = false from h]; simp
  | 2, _, h => unfold mayB; rw [show runsB m.M xs = false from h]; simp
  | 3, _, h => unfold mayB; rw [show decide (m.L ≤ m.C - xs.length + kinds xs) = false from h]; simp
theorem may_yes {m : Mk} {xs : List Int} {k : Nat} (hall : ∀ j, 1 ≤ j → j < k + 1 → ruleB m xs j = true) (hk : ¬ k < 4) : mayB m xs = true := by
  unfold mayB
  rw [show allIn 0 (m.D - 1) xs = true from hall 1 (by omega) (by omega), show stepsB m.S xs = true from hall 2 (by omega) (by omega), show runsB m.M xs = true from hall 3 (by omega) (by omega), show decide (m.L ≤ m.C - xs.length + kinds xs) = true from hall 4 (by omega) (by omega)]
  rfl
theorem rules_next {m : Mk} {xs : List Int} {k : Nat} (hall : ∀ j, 1 ≤ j → j < k + 1 → ruleB m xs j = true) (h : ruleB m xs (k + 1) = true) : ∀ j, 1 ≤ j → j < k + 1 + 1 → ruleB m xs j = true := by
  intro j h1 h2
  by_cases e : j = k + 1
  · subst e; exact h
  · exact hall j h1 (by omega)
/-- the rules in their array -/
def Ruled (w : World) (g : Nat) : Prop := w.heap[g]? = some (.cells #[.func (.func 129) #[] #[], .func (.func 130) #[] #[], .func (.func 131) #[] #[], .func (.func 132) #[] #[], .func (.func 133) #[] #[]] 132 (0, 0))
theorem Ruled.on {w w' : World} {g : Nat} (h : Ruled w g) (hb : Below w.heap.size w w') : Ruled w' g := (hb.block g (heapLt h)).trans h
theorem Ruled.cell {w : World} {g : Nat} (h : Ruled w g) (i : Nat) : w.cell? ⟨g, i, none⟩ = (#[.func (.func 129) #[] #[], .func (.func 130) #[] #[], .func (.func 131) #[] #[], .func (.func 132) #[] #[], .func (.func 133) #[] #[]] : Array Value)[i]? := by
  unfold Ruled at h
  simp [World.cell?, h]

set_option maxRecDepth 100000 in
set_option maxHeartbeats 2000000 in
theorem mayBegin_any (m : Mk) (A : Option Addr) (n c : Nat) (xs : List Int) (w : World) (h : Ints w w.heap.size A n xs) (hn : n ≤ 1048576) (hm : m.ok = true) :
    Calls Try.prog 128 #[.agg #[.int .i64 m.C, .int .i64 m.D, .int .i64 m.S, .int .i64 m.M, .int .i64 m.L], .slice A n c] w
      fun e w' => e = .returned (.bool (mayB m xs)) ∧ Below w.heap.size w w' := by
  obtain ⟨m1, m2, m3, m4, m5, m6, m7, m8, m9, m10, m11⟩ := Mk.ok_true hm
  have HM := Lib.hid hm
  clear hm
  have HL := Lib.hid h.len
  have b0 := (Below.refl w.heap.size w).alloc (Nat.le_refl _) (.cells #[.int .i64 m.C, .int .i64 m.D, .int .i64 m.S, .int .i64 m.M, .int .i64 m.L] 25)
  have hx := Boxed.new w 25 m
  go_enter Try.func128, Try.ntmps128
  go_wp2_with fail
  refine (keyRules_any _).mono ?_
  rintro e w1 ⟨rfl, b1⟩
  have x1 := Lib.hid (hx.on b1)
  have c1 := Lib.hid (below_trans' b0 b1)
  have s1 := c1.out.size
  have r1 : Hid (Ruled (w1.alloc (.cells #[.func (.func 129) #[] #[], .func (.func 130) #[] #[], .func (.func 131) #[] #[], .func (.func 132) #[] #[], .func (.func 133) #[] #[]] 132)) w1.heap.size) := Lib.hid (heap_alloc_new w1 _)
  clear hx b0 b1
  go_wp2
  go_loopw [11] (fun i wr => ∃ k : Nat, k ≤ 4 ∧ i = .int .i64 k ∧ Hid (∀ j, 1 ≤ j → j < k + 1 → ruleB m xs j = true) ∧ Boxed wr w.heap.size 25 m ∧ Ruled wr w1.heap.size ∧ Below w.heap.size w wr) (fun i _ => 4 - (intOf i).toNat)
  case atStart => exact ⟨0, by omega, rfl, Lib.hid (fun j hj hj2 => absurd hj (by omega)), x1.out.alloc _, r1.out, c1.out.alloc s1 _⟩
  case round =>
    obtain ⟨k, hk, rfl, hall, hbox, hru, hb⟩ := hrel
    have hi := h.on hb
    obtain ⟨q0, q1, q2, q3, q4⟩ := hbox.cells
    have HX := Lib.hid hbox
    have HR := Lib.hid hru
    clear hbox hru r1 x1 c1
    by_cases hlt : k < 4
    · have hlk : k = 0 ∨ k = 1 ∨ k = 2 ∨ k = 3 := by omega
      rcases hlk with rfl | rfl | rfl | rfl
      · have hc : wr.cell? ⟨w1.heap.size, 1, none⟩ = some (.func (.func 130) #[] #[]) := HR.out.cell 1
        rcases hq : ruleB m xs (0 + 1) with _ | _
        · have HF := Lib.hid (may_no hall.out hlt hq)
          have hq' : (allIn 0 (m.D - 1) xs) = false := by exact hq
          clear hq
          go_wp2_with fail
          refine (hasOnlyDepths_any m _ _ _ xs _ hi hn m3 m4).mono ?_
          rw [hq']
          rintro e w3 ⟨rfl, b3⟩
          clear hc
          go_wp2
          go_ret
          exact ⟨ret_bool HF.out.symm, hb.trans (b3.mono hb.size)⟩
        · have HF := Lib.hid (rules_next hall.out hq)
          have hq' : (allIn 0 (m.D - 1) xs) = true := by exact hq
          clear hq
          go_wp2_with fail
          refine (hasOnlyDepths_any m _ _ _ xs _ hi hn m3 m4).mono ?_
          rw [hq']
          rintro e w3 ⟨rfl, b3⟩
          have X3 := Lib.hid (HX.out.on b3)
          have R3 := Lib.hid (HR.out.on b3)
          have B3 := Lib.hid (hb.trans (b3.mono hb.size))
          clear hc b3
          go_wp2
          go_roundw
          case rel => exact ⟨1, by omega, rfl, HF, X3.out, R3.out, B3.out⟩
          case measure => simp [intOf]
      · have hc : wr.cell? ⟨w1.heap.size, 2, none⟩ = some (.func (.func 131) #[] #[]) := HR.out.cell 2
        rcases hq : ruleB m xs (1 + 1) with _ | _
        · have HF := Lib.hid (may_no hall.out hlt hq)
          have hq' : (stepsB m.S xs) = false := by exact hq
          clear hq
          go_wp2_with fail
          refine (hasSmallSteps_any m _ _ _ xs _ hi hn HM.out (hall.out 1 (by omega) (by omega))).mono ?_
          rw [hq']
          rintro e w3 ⟨rfl, b3⟩
          clear hc
          go_wp2
          go_ret
          exact ⟨ret_bool HF.out.symm, hb.trans (b3.mono hb.size)⟩
        · have HF := Lib.hid (rules_next hall.out hq)
          have hq' : (stepsB m.S xs) = true := by exact hq
          clear hq
          go_wp2_with fail
          refine (hasSmallSteps_any m _ _ _ xs _ hi hn HM.out (hall.out 1 (by omega) (by omega))).mono ?_
          rw [hq']
          rintro e w3 ⟨rfl, b3⟩
          have X3 := Lib.hid (HX.out.on b3)
          have R3 := Lib.hid (HR.out.on b3)
          have B3 := Lib.hid (hb.trans (b3.mono hb.size))
          clear hc b3
          go_wp2
          go_roundw
          case rel => exact ⟨2, by omega, rfl, HF, X3.out, R3.out, B3.out⟩
          case measure => simp [intOf]
      · have hc : wr.cell? ⟨w1.heap.size, 3, none⟩ = some (.func (.func 132) #[] #[]) := HR.out.cell 3
        rcases hq : ruleB m xs (2 + 1) with _ | _
        · have HF := Lib.hid (may_no hall.out hlt hq)
          have hq' : (runsB m.M xs) = false := by exact hq
          clear hq
          go_wp2_with fail
          refine (hasShortRuns_any m _ _ _ xs _ hi hn).mono ?_
          rw [hq']
          rintro e w3 ⟨rfl, b3⟩
          clear hc
          go_wp2
          go_ret
          exact ⟨ret_bool HF.out.symm, hb.trans (b3.mono hb.size)⟩
        · have HF := Lib.hid (rules_next hall.out hq)
          have hq' : (runsB m.M xs) = true := by exact hq
          clear hq
          go_wp2_with fail
          refine (hasShortRuns_any m _ _ _ xs _ hi hn).mono ?_
          rw [hq']
          rintro e w3 ⟨rfl, b3⟩
          have X3 := Lib.hid (HX.out.on b3)
          have R3 := Lib.hid (HR.out.on b3)
          have B3 := Lib.hid (hb.trans (b3.mono hb.size))
          clear hc b3
          go_wp2
          go_roundw
          case rel => exact ⟨3, by omega, rfl, HF, X3.out, R3.out, B3.out⟩
          case measure => simp [intOf]
      · have hc : wr.cell? ⟨w1.heap.size, 4, none⟩ = some (.func (.func 133) #[] #[]) := HR.out.cell 4
        rcases hq : ruleB m xs (3 + 1) with _ | _
        · have HF := Lib.hid (may_no hall.out hlt hq)
          have hq' : (decide (m.L ≤ m.C - n + kinds xs)) = false := by unfold ruleB at hq; rw [HL.out] at hq; exact hq
          clear hq
          go_wp2_with fail
          refine (hasEnoughCuts_any m _ _ _ xs _ hi hn HM.out (hall.out 1 (by omega) (by omega))).mono ?_
          rw [hq']
          rintro e w3 ⟨rfl, b3⟩
          clear hc
          go_wp2
          go_ret
          exact ⟨ret_bool HF.out.symm, hb.trans (b3.mono hb.size)⟩
        · have HF := Lib.hid (rules_next hall.out hq)
          have hq' : (decide (m.L ≤ m.C - n + kinds xs)) = true := by unfold ruleB at hq; rw [HL.out] at hq; exact hq
          clear hq
          go_wp2_with fail
          refine (hasEnoughCuts_any m _ _ _ xs _ hi hn HM.out (hall.out 1 (by omega) (by omega))).mono ?_
          rw [hq']
          rintro e w3 ⟨rfl, b3⟩
          have X3 := Lib.hid (HX.out.on b3)
          have R3 := Lib.hid (HR.out.on b3)
          have B3 := Lib.hid (hb.trans (b3.mono hb.size))
          clear hc b3
          go_wp2
          go_roundw
          case rel => exact ⟨4, by omega, rfl, HF, X3.out, R3.out, B3.out⟩
          case measure => simp [intOf]
    · have HF := Lib.hid (may_yes hall.out hlt)
      have HK := Lib.hid (show k = 4 by omega)
      go_wp2
      go_ret
      exact ⟨ret_bool HF.out.symm, hb⟩

end Go.Proofs.Ytjoknbknhfnggaa
