/- KeyFault and IsKey of the program. KeyFault and IsKey of the model: contracts. The rules for cuts in the model: contracts. -/
import Derived.Test.YtgbicepneonkfaaMk
import Derived.Laws.EntriesVeiled
namespace Go.Proofs.Ytgbicepneonkfaa
open Go.RowKit

theorem keyRules_any (w : World) :
    Calls Try.prog 139 #[] w fun e w' => e = .returned (.agg #[.func (.func 141) #[] #[], .func (.func 142) #[] #[], .func (.func 143) #[] #[], .func (.func 144) #[] #[], .func (.func 145) #[] #[]]) ∧ Below w.heap.size w w' := by
  go_enter Try.func139, Try.ntmps139
  go_wp2
  refine bodyPost_ret (v := .agg #[.func (.func 141) #[] #[], .func (.func 142) #[] #[], .func (.func 143) #[] #[], .func (.func 144) #[] #[], .func (.func 145) #[] #[]]) (by simp [results, Try.results139, go_sem]) rfl ⟨rfl, ?_⟩
  exact (Below.refl w.heap.size w).alloc (Nat.le_refl _) _

/-- the rules by their places -/
def ruleB (m : Mk) (xs : List Int) : Nat → Bool
  | 0 => (xs.length : Int) == m.C
  | 1 => allIn 0 (m.D - 1) xs
  | 2 => stepsB m.S xs
  | 3 => runsB m.M xs
  | _ => decide (m.L ≤ m.C - xs.length + kinds xs)
theorem fault_at {m : Mk} {xs : List Int} {k : Nat} (hall : ∀ j, j < k → ruleB m xs j = true) (hk : k < 5) (h : ruleB m xs k = false) : faultV m xs = (k : Int) + 1 := by
  have g : ∀ j, j < k → ruleB m xs j = true := hall
  match k, hk, h with
  | 0, _, h => exact fault1 (by unfold ruleB at h; simpa using h)
  | 1, _, h => exact fault2 (by have := g 0 (by omega); unfold ruleB at this; simpa using this) h
  | 2, _, h => exact fault3 (by have := g 0 (by omega); unfold ruleB at this; simpa using this) (g 1 (by omega)) h
  | 3, _, h => exact fault4 (by have := g 0 (by omega); unfold ruleB at this; simpa using this) (g 1 (by omega)) (g 2 (by omega)) h
  | 4, _, h =>
    have e : (xs.length : Int) = m.C := by have := g 0 (by omega); unfold ruleB at this; simpa using this
    exact fault5 e (g 1 (by omega)) (g 2 (by omega)) (g 3 (by omega)) (by unfold ruleB at h; simp at h; omega)
theorem fault_none {m : Mk} {xs : List Int} {k : Nat} (hall : ∀ j, j < k → ruleB m xs j = true) (hk : ¬ k < 5) : faultV m xs = 0 := by
  have g : ∀ j, j < 5 → ruleB m xs j = true := fun j hj => hall j (by omega)
  have e : (xs.length : Int) = m.C := by have := g 0 (by omega); unfold ruleB at this; simpa using this
  exact fault0 e (g 1 (by omega)) (g 2 (by omega)) (g 3 (by omega)) (by have := g 4 (by omega); unfold ruleB at this; simp at this; omega)

def kfV (m : Mk) (xs : List Int) : Int := if m.ok then faultV m xs else 0
def kfE (m : Mk) : Int := if m.ok then 0 else 1

set_option maxRecDepth 100000 in
set_option maxHeartbeats 2000000 in
theorem keyFault_any (m : Mk) (A : Option Addr) (n c : Nat) (xs : List Int) (w : World) (h : Ints w w.heap.size A n xs) (hn : n ≤ 1048576) :
    Calls Try.prog 125 #[.agg #[.int .i64 m.C, .int .i64 m.D, .int .i64 m.S, .int .i64 m.M, .int .i64 m.L], .slice A n c] w
      fun e w' => e = .returned (.tuple #[.int .i64 (kfV m xs), .int .i64 (kfE m)]) ∧ Below w.heap.size w w' := by
  have HL := Lib.hid h.len
  have b0 := (Below.refl w.heap.size w).alloc (Nat.le_refl _) (.cells #[.int .i64 m.C, .int .i64 m.D, .int .i64 m.S, .int .i64 m.M, .int .i64 m.L] 25)
  have hx := Boxed.new w 25 m
  rcases hm : m.ok with _ | _
  · unfold kfV kfE
    rw [hm]
    go_enter Try.func125, Try.ntmps125
    go_wp2_with fail
    refine (isMaker_any m _).mono ?_
    rw [hm]
    rintro e w1 ⟨rfl, b1⟩
    go_wp2
    go_ret2
    exact ⟨rfl, below_trans' b0 b1⟩
  · unfold kfV kfE
    rw [hm]
    obtain ⟨m1, m2, m3, m4, m5, m6, m7, m8, m9, m10, m11⟩ := Mk.ok_true hm
    have HM := Lib.hid hm
    clear hm
    go_enter Try.func125, Try.ntmps125
    go_wp2_with fail
    refine (isMaker_any m _).mono ?_
    rw [HM.out]
    rintro e w1 ⟨rfl, b1⟩
    have x1 := hx.on b1
    have c1 := below_trans' b0 b1
    clear b0 b1 hx
    go_wp2_with fail
    refine (keyRules_any _).mono ?_
    rintro e w2 ⟨rfl, b2⟩
    have x2 := x1.on b2
    have c2 := below_trans' c1 b2
    clear x1 c1 b2
    go_wp2
    go_loopw [12] (fun i wr => ∃ k : Nat, k ≤ 5 ∧ i = .int .i64 k ∧ Hid (∀ j, j < k → ruleB m xs j = true) ∧ Boxed wr w.heap.size 25 m ∧ Below w.heap.size w wr) (fun i _ => 5 - (intOf i).toNat)
    case atStart => exact ⟨0, by omega, rfl, Lib.hid (fun j hj => absurd hj (by omega)), x2, c2⟩
    case round =>
      obtain ⟨k, hk, rfl, hall, hbox, hb⟩ := hrel
      have hi := h.on hb
      obtain ⟨q0, q1, q2, q3, q4⟩ := hbox.cells
      have HX := Lib.hid hbox
      clear hbox x2 c2
      by_cases hlt : k < 5
      · have hlk : k = 0 ∨ k = 1 ∨ k = 2 ∨ k = 3 ∨ k = 4 := by omega
        rcases hlk with rfl | rfl | rfl | rfl | rfl
        · have hix : ∀ w, (Instr.index 150 (.agg #[.func (.func 141) #[] #[], .func (.func 142) #[] #[], .func (.func 143) #[] #[], .func (.func 144) #[] #[], .func (.func 145) #[] #[]]) (.int .i64 0)).run Try.prog w = .ok (.func (.func 141) #[] #[]) w := fun _ => by kernel_rfl
          rcases hq : ruleB m xs 0 with _ | _
          · have HF := Lib.hid (fault_at hall.out hlt hq)
            have hq' : ((n : Int) == m.C) = false := by unfold ruleB at hq; rw [HL.out] at hq; exact hq
            clear hq
            go_wp2_with fail
            refine (hasAllChambers_any m _ _ _ _).mono ?_
            rw [hq']
            rintro e w3 ⟨rfl, b3⟩
            clear hix
            go_wp2
            go_ret2
            exact ⟨ret_int2 (by simpa using HF.out.symm) rfl, hb.trans (b3.mono hb.size)⟩
          · have HF := Lib.hid (all_next hall.out hq)
            have hq' : ((n : Int) == m.C) = true := by unfold ruleB at hq; rw [HL.out] at hq; exact hq
            clear hq
            go_wp2_with fail
            refine (hasAllChambers_any m _ _ _ _).mono ?_
            rw [hq']
            rintro e w3 ⟨rfl, b3⟩
            have X3 := Lib.hid (HX.out.on b3)
            have B3 := Lib.hid (hb.trans (b3.mono hb.size))
            clear hix b3
            go_wp2
            go_roundw
            case rel => exact ⟨1, by omega, rfl, HF, X3.out, B3.out⟩
            case measure => simp [intOf]
        · have hix : ∀ w, (Instr.index 150 (.agg #[.func (.func 141) #[] #[], .func (.func 142) #[] #[], .func (.func 143) #[] #[], .func (.func 144) #[] #[], .func (.func 145) #[] #[]]) (.int .i64 1)).run Try.prog w = .ok (.func (.func 142) #[] #[]) w := fun _ => by kernel_rfl
          rcases hq : ruleB m xs 1 with _ | _
          · have HF := Lib.hid (fault_at hall.out hlt hq)
            have hq' : (allIn 0 (m.D - 1) xs) = false := by exact hq
            clear hq
            go_wp2_with fail
            refine (hasOnlyDepths_any m _ _ _ xs _ hi hn m3 m4).mono ?_
            rw [hq']
            rintro e w3 ⟨rfl, b3⟩
            clear hix
            go_wp2
            go_ret2
            exact ⟨ret_int2 (by simpa using HF.out.symm) rfl, hb.trans (b3.mono hb.size)⟩
          · have HF := Lib.hid (all_next hall.out hq)
            have hq' : (allIn 0 (m.D - 1) xs) = true := by exact hq
            clear hq
            go_wp2_with fail
            refine (hasOnlyDepths_any m _ _ _ xs _ hi hn m3 m4).mono ?_
            rw [hq']
            rintro e w3 ⟨rfl, b3⟩
            have X3 := Lib.hid (HX.out.on b3)
            have B3 := Lib.hid (hb.trans (b3.mono hb.size))
            clear hix b3
            go_wp2
            go_roundw
            case rel => exact ⟨2, by omega, rfl, HF, X3.out, B3.out⟩
            case measure => simp [intOf]
        · have hix : ∀ w, (Instr.index 150 (.agg #[.func (.func 141) #[] #[], .func (.func 142) #[] #[], .func (.func 143) #[] #[], .func (.func 144) #[] #[], .func (.func 145) #[] #[]]) (.int .i64 2)).run Try.prog w = .ok (.func (.func 143) #[] #[]) w := fun _ => by kernel_rfl
          rcases hq : ruleB m xs 2 with _ | _
          · have HF := Lib.hid (fault_at hall.out hlt hq)
            have hq' : (stepsB m.S xs) = false := by exact hq
            clear hq
            go_wp2_with fail
            refine (hasSmallSteps_any m _ _ _ xs _ hi hn HM.out (hall.out 1 (by omega))).mono ?_
            rw [hq']
            rintro e w3 ⟨rfl, b3⟩
            clear hix
            go_wp2
            go_ret2
            exact ⟨ret_int2 (by simpa using HF.out.symm) rfl, hb.trans (b3.mono hb.size)⟩
          · have HF := Lib.hid (all_next hall.out hq)
            have hq' : (stepsB m.S xs) = true := by exact hq
            clear hq
            go_wp2_with fail
            refine (hasSmallSteps_any m _ _ _ xs _ hi hn HM.out (hall.out 1 (by omega))).mono ?_
            rw [hq']
            rintro e w3 ⟨rfl, b3⟩
            have X3 := Lib.hid (HX.out.on b3)
            have B3 := Lib.hid (hb.trans (b3.mono hb.size))
            clear hix b3
            go_wp2
            go_roundw
            case rel => exact ⟨3, by omega, rfl, HF, X3.out, B3.out⟩
            case measure => simp [intOf]
        · have hix : ∀ w, (Instr.index 150 (.agg #[.func (.func 141) #[] #[], .func (.func 142) #[] #[], .func (.func 143) #[] #[], .func (.func 144) #[] #[], .func (.func 145) #[] #[]]) (.int .i64 3)).run Try.prog w = .ok (.func (.func 144) #[] #[]) w := fun _ => by kernel_rfl
          rcases hq : ruleB m xs 3 with _ | _
          · have HF := Lib.hid (fault_at hall.out hlt hq)
            have hq' : (runsB m.M xs) = false := by exact hq
            clear hq
            go_wp2_with fail
            refine (hasShortRuns_any m _ _ _ xs _ hi hn).mono ?_
            rw [hq']
            rintro e w3 ⟨rfl, b3⟩
            clear hix
            go_wp2
            go_ret2
            exact ⟨ret_int2 (by simpa using HF.out.symm) rfl, hb.trans (b3.mono hb.size)⟩
          · have HF := Lib.hid (all_next hall.out hq)
            have hq' : (runsB m.M xs) = true := by exact hq
            clear hq
            go_wp2_with fail
            refine (hasShortRuns_any m _ _ _ xs _ hi hn).mono ?_
            rw [hq']
            rintro e w3 ⟨rfl, b3⟩
            have X3 := Lib.hid (HX.out.on b3)
            have B3 := Lib.hid (hb.trans (b3.mono hb.size))
            clear hix b3
            go_wp2
            go_roundw
            case rel => exact ⟨4, by omega, rfl, HF, X3.out, B3.out⟩
            case measure => simp [intOf]
        · have hix : ∀ w, (Instr.index 150 (.agg #[.func (.func 141) #[] #[], .func (.func 142) #[] #[], .func (.func 143) #[] #[], .func (.func 144) #[] #[], .func (.func 145) #[] #[]]) (.int .i64 4)).run Try.prog w = .ok (.func (.func 145) #[] #[]) w := fun _ => by kernel_rfl
          rcases hq : ruleB m xs 4 with _ | _
          · have HF := Lib.hid (fault_at hall.out hlt hq)
            have hq' : (decide (m.L ≤ m.C - n + kinds xs)) = false := by unfold ruleB at hq; rw [HL.out] at hq; exact hq
            clear hq
            go_wp2_with fail
            refine (hasEnoughCuts_any m _ _ _ xs _ hi hn HM.out (hall.out 1 (by omega))).mono ?_
            rw [hq']
            rintro e w3 ⟨rfl, b3⟩
            clear hix
            go_wp2
            go_ret2
            exact ⟨ret_int2 (by simpa using HF.out.symm) rfl, hb.trans (b3.mono hb.size)⟩
          · have HF := Lib.hid (all_next hall.out hq)
            have hq' : (decide (m.L ≤ m.C - n + kinds xs)) = true := by unfold ruleB at hq; rw [HL.out] at hq; exact hq
            clear hq
            go_wp2_with fail
            refine (hasEnoughCuts_any m _ _ _ xs _ hi hn HM.out (hall.out 1 (by omega))).mono ?_
            rw [hq']
            rintro e w3 ⟨rfl, b3⟩
            have X3 := Lib.hid (HX.out.on b3)
            have B3 := Lib.hid (hb.trans (b3.mono hb.size))
            clear hix b3
            go_wp2
            go_roundw
            case rel => exact ⟨5, by omega, rfl, HF, X3.out, B3.out⟩
            case measure => simp [intOf]
      · have HF := Lib.hid (fault_none hall.out hlt)
        have HK := Lib.hid (show k = 5 by omega)
        go_wp2
        go_ret2
        exact ⟨ret_int2 HF.out.symm rfl, hb⟩

end Go.Proofs.Ytgbicepneonkfaa

namespace Go.Proofs.Ytgbicepneonkfaa
open Go.RowKit

def isKeyB (m : Mk) (xs : List Int) : Bool := m.ok && (faultV m xs == 0)
theorem isKey_any (m : Mk) (A : Option Addr) (n c : Nat) (xs : List Int) (w : World) (h : Ints w w.heap.size A n xs) (hn : n ≤ 1048576) :
    Calls Try.prog 81 #[.agg #[.int .i64 m.C, .int .i64 m.D, .int .i64 m.S, .int .i64 m.M, .int .i64 m.L], .slice A n c] w
      fun e w' => e = .returned (.bool (isKeyB m xs)) ∧ Below w.heap.size w w' := by
  have b0 := (Below.refl w.heap.size w).alloc (Nat.le_refl _) (.cells #[.int .i64 m.C, .int .i64 m.D, .int .i64 m.S, .int .i64 m.M, .int .i64 m.L] 25)
  have h0 := h.on b0
  rcases hm : m.ok with _ | _
  all_goals
    have e1 : kfE m = (if m.ok then 0 else 1) := rfl
    have e2 : kfV m xs = (if m.ok then faultV m xs else 0) := rfl
    have e3 : isKeyB m xs = (m.ok && (faultV m xs == 0)) := rfl
    rw [hm] at e1 e2 e3
    rw [e3]
    clear e3
    simp only [if_true, if_false, Bool.false_eq_true, Bool.true_and, Bool.false_and] at e1 e2 ⊢
    have E1 := Lib.hid e1
    have E2 := Lib.hid e2
    clear e1 e2 hm
    go_enter Try.func81, Try.ntmps81
    go_wp2_with fail
    refine (keyFault_any m _ _ _ xs _ h0 hn).mono ?_
    rw [E1.out, E2.out]
    rintro e w1 ⟨rfl, b1⟩
    have c1 := below_trans' b0 b1
    go_wp2
    go_ret
    exact ⟨rfl, c1⟩

def absI (x : Int) : Int := if x < 0 then -x else x
theorem l01Abs_any (x : Int) (w : World) (x0 : -1000000000000 ≤ x) (x1 : x ≤ 1000000000000) :
    Calls Try.prog 138 #[.int .i64 x] w fun e w' => e = .returned (.int .i64 (absI x)) ∧ w = w' := by
  by_cases h : x < 0
  · go_enter Try.func138, Try.ntmps138
    go_wp2
    go_ret
    exact ⟨ret_int (by unfold absI; omega), rfl⟩
  · go_enter Try.func138, Try.ntmps138
    go_wp2
    go_ret
    exact ⟨ret_int (by unfold absI; omega), rfl⟩
theorem abs_step {S x : Int} : decide (S < absI x) = !inB x (-S) S := by
  unfold absI inB
  by_cases h : x < 0
  · rw [if_pos h, Bool.eq_iff_iff]; simp; omega
  · rw [if_neg h, Bool.eq_iff_iff]; simp; omega

theorem l01Has_any (A : Option Addr) (n c : Nat) (xs : List Int) (x : Int) (w : World) (h : Ints w w.heap.size A n xs) (hn : n ≤ 1048576) :
    Calls Try.prog 140 #[.slice A n c, .int .i64 x] w fun e w' => e = .returned (.bool (xs.any (fun y => decide (y = x)))) ∧ w = w' := by
  have HL := Lib.hid h.len
  go_enter Try.func140, Try.ntmps140
  go_wp2
  go_loop [5] (fun i => ∃ k : Nat, k ≤ n ∧ i = .int .i64 k ∧ Hid ((xs.take k).any (fun y => decide (y = x)) = false)) (fun i => n - (intOf i).toNat)
  case atStart => exact ⟨0, Nat.zero_le _, rfl, Lib.hid rfl⟩
  case round =>
    obtain ⟨k, hk, rfl, hall⟩ := hrel
    by_cases hlt : k < n
    · obtain ⟨ad, v, rfl, hab, hv, hc⟩ := h.at_ hlt
      have HV := Lib.hid hv
      clear hv
      rcases hq : (v == x) with _ | _
      · have hne : ¬ v = x := by simpa using hq
        have HN := Lib.hid hne
        clear hne
        go_wp2
        go_round
        case rel => exact ⟨k + 1, by omega, by go_num, Lib.hid (by
          obtain ⟨hk', hv'⟩ := List.getElem?_eq_some_iff.1 HV.out
          rw [List.take_succ_eq_append_getElem hk', List.any_append, hall.out, hv']
          simp [HN.out])⟩
        case measure => simp [intOf]; omega
      · have he : v = x := by simpa using hq
        have HE := Lib.hid he
        clear he
        go_wp2
        go_ret
        exact ⟨ret_bool (by
          rw [eq_comm, List.any_eq_true]
          exact ⟨v, List.mem_of_getElem? HV.out, by simp [HE.out]⟩), rfl⟩
    · have HA : Hid (xs.any (fun y => decide (y = x)) = false) := by rw [← take_end HL.out hlt]; exact hall
      clear hall
      go_wp2
      go_ret
      exact ⟨ret_bool HA.out.symm, rfl⟩

theorem l01Has_at (A : Option Addr) (n c : Nat) (xs : List Int) (x : Int) (w : World) (q : Bool) (h : Ints w w.heap.size A n xs) (hn : n ≤ 1048576) (hq : xs.any (fun y => decide (y = x)) = q) :
    Calls Try.prog 140 #[.slice A n c, .int .i64 x] w fun e w' => e = .returned (.bool q) ∧ w = w' := by
  subst hq; exact l01Has_any A n c xs x w h hn
theorem Ints.front {w : World} {B n k : Nat} {A : Option Addr} {xs : List Int} (h : Ints w B A n xs) (hk : k ≤ n) : Ints w B A k (xs.take k) := by
  refine ⟨by rw [List.length_take, h.len]; omega, fun h0 => ?_⟩
  obtain ⟨ad, e, hb, hc⟩ := h.2 (by omega)
  refine ⟨ad, e, hb, fun j v hv => hc j v ?_⟩
  rw [List.getElem?_take] at hv
  split at hv
  · exact hv
  · cases hv

set_option maxRecDepth 100000 in
theorem l02Kinds_any (A : Option Addr) (n c : Nat) (xs : List Int) (w : World) (h : Ints w w.heap.size A n xs) (hn : n ≤ 1048576) (hc0 : n ≤ c) (hcm : c ≤ 9223372036854775807) :
    Calls Try.prog 136 #[.slice A n c] w fun e w' => e = .returned (.int .i64 (kinds xs)) ∧ ∃ q, w' = w.drewN q := by
  have HL := Lib.hid h.len
  go_enter Try.func136, Try.ntmps136
  go_wp2
  go_loopw [3, 4] (fun r i wr => ∃ k q : Nat, k ≤ n ∧ i = .int .i64 k ∧ r = .int .i64 (kindsAt xs k) ∧ wr = w.drewN q) (fun _ i _ => n - (intOf i).toNat)
  case atStart => exact ⟨0, 0, Nat.zero_le _, rfl, rfl, rfl⟩
  case round =>
    obtain ⟨k, q, hk, rfl, rfl, rfl⟩ := hrel
    have hr := kindsAt_le xs k
    by_cases hlt : k < n
    · obtain ⟨ad, v, rfl, hab, hv, hc⟩ := h.at_ hlt
      have hF := h.front hk
      have HV := Lib.hid hv
      clear hv
      have i0 : (0 : Int) ≤ (k : Int) := by omega
      have i1 : (k : Int) < (n : Int) := by omega
      have i2 : (k : Int) ≤ (c : Int) := by omega
      rcases hs : seenB xs k v with _ | _
      · have HK := Lib.hid (kinds_new HV.out hs)
        go_wp2
        go_quiet ((go_at_call 140; exact quiet_add_left (l01Has_at _ _ _ (xs.take k) _ _ _ hF (by omega) hs)))
        go_wp2
        go_roundw
        case rel => exact ⟨k + 1, _, by omega, by go_num, by rw [HK.out]; go_num, rfl⟩
        case measure => simp [intOf]; omega
      · have HK := Lib.hid (kinds_old HV.out hs)
        go_wp2
        go_quiet ((go_at_call 140; exact quiet_add_left (l01Has_at _ _ _ (xs.take k) _ _ _ hF (by omega) hs)))
        go_wp2
        go_roundw
        case rel => exact ⟨k + 1, _, by omega, by go_num, by rw [HK.out], rfl⟩
        case measure => simp [intOf]; omega
    · have HK := Lib.hid (show k = n by omega)
      go_wp2
      go_ret
      exact ⟨ret_int (by unfold kinds; rw [HL.out, HK.out]), q, rfl⟩

end Go.Proofs.Ytgbicepneonkfaa

namespace Go.Proofs.Ytgbicepneonkfaa
open Go.RowKit

theorem quiet_on {P : Program} {f : FuncId} {args : Array Value} {w : World} {n : Nat} {v : Value}
    (h : Calls P f args (w.drewN n) fun e w' => e = .returned v ∧ ∃ m, w' = (w.drewN n).drewN m) :
    Calls P f args (w.drewN n) fun e w' => e = .returned v ∧ ∃ m, w' = w.drewN m :=
  h.mono fun _ _ ⟨he, m, hm⟩ => ⟨he, n + m, by rw [hm, World.drewN_drewN]⟩
theorem ints_drewN {w : World} {B n : Nat} {A : Option Addr} {xs : List Int} (h : Ints w B A n xs) (k : Nat) : Ints (w.drewN k) B A n xs := h.keep fun _ _ => rfl

set_option maxRecDepth 100000 in
theorem l02Cuts_any (m : Mk) (A : Option Addr) (n c : Nat) (xs : List Int) (w : World) (h : Ints w w.heap.size A n xs) (hn : n ≤ 1048576) (d0 : 2 ≤ m.D) (d1 : m.D ≤ 8) :
    Calls Try.prog 137 #[.agg #[.int .i64 m.C, .int .i64 m.D, .int .i64 m.S, .int .i64 m.M, .int .i64 m.L], .slice A n c] w
      fun e w' => e = .returned (.bool (allIn 0 (m.D - 1) xs && ((n : Int) == m.C))) ∧ Below w.heap.size w w' := by
  have HL := Lib.hid h.len
  have b0 := Lib.hid ((Below.refl w.heap.size w).alloc (Nat.le_refl _) (.cells #[.int .i64 m.C, .int .i64 m.D, .int .i64 m.S, .int .i64 m.M, .int .i64 m.L] 25))
  have hx := Lib.hid (Boxed.new w 25 m)
  go_enter Try.func137, Try.ntmps137
  go_wp2
  go_loopw [5] (fun i wr => ∃ k : Nat, k ≤ n ∧ i = .int .i64 k ∧ Hid (allIn 0 (m.D - 1) (xs.take k) = true) ∧ Boxed wr w.heap.size 25 m ∧ Below w.heap.size w wr) (fun i _ => n - (intOf i).toNat)
  case atStart => exact ⟨0, Nat.zero_le _, rfl, Lib.hid rfl, hx.out, b0.out⟩
  case round =>
    obtain ⟨k, hk, rfl, hall, hbox, hb⟩ := hrel
    obtain ⟨q0, q1, q2, q3, q4⟩ := hbox.cells
    have HX := Lib.hid hbox
    clear hbox
    by_cases hlt : k < n
    · obtain ⟨ad, v, rfl, hab, hv, hc⟩ := (h.below hb).at_ hlt
      have HV := Lib.hid hv
      clear hv
      have s1 : IntKind.i64.wrap (m.D - 1) = m.D - 1 := IntWalk.i64_in _ (by omega)
      rcases hq : inB v 0 (m.D - 1) with _ | _
      · go_wp2
        go_quiet ((go_at_call 104; exact quiet_left (l01In_at _ _ _ _ _ hq)))
        clear s1
        go_wp2
        go_ret
        exact ⟨ret_bool (by rw [allIn_no HV.out hq]; rfl), below_drewN hb _⟩
      · go_wp2
        go_quiet ((go_at_call 104; exact quiet_left (l01In_at _ _ _ _ _ hq)))
        clear s1
        go_wp2
        go_roundw
        case rel => exact ⟨k + 1, by omega, by go_num, Lib.hid (allIn_step HV.out hall.out hq), HX.out.drewN _, below_drewN hb _⟩
        case measure => simp [intOf]; omega
    · have HA : Hid (allIn 0 (m.D - 1) xs = true) := by rw [← take_end HL.out hlt]; exact hall
      clear hall
      go_wp2
      go_ret
      exact ⟨ret_bool (by rw [HA.out]; rfl), hb⟩

/-- the greatest number of equal cuts before place j -/
def mostAt (xs : List Int) : Nat → Nat
  | 0 => 0
  | j + 1 => max (mostAt xs j) (runAt xs (j + 1))
theorem mostAt_succ (xs : List Int) (j : Nat) : mostAt xs (j + 1) = max (mostAt xs j) (runAt xs (j + 1)) := rfl
theorem mostAt_le (xs : List Int) (j : Nat) : mostAt xs j ≤ j := by
  induction j with
  | zero => simp [mostAt]
  | succ j ih => have := runAt_le xs (j + 1); rw [mostAt_succ]; omega
theorem most_ok {xs : List Int} {M : Int} (hM : 0 ≤ M) : ∀ k : Nat, ((mostAt xs k : Int) ≤ M ↔ ∀ j, j < k → runOk M xs j = true) := by
  intro k
  induction k with
  | zero => simp [mostAt]; exact hM
  | succ k ih =>
    constructor
    · intro h j hj
      have h1 : (mostAt xs k : Int) ≤ M ∧ (runAt xs (k + 1) : Int) ≤ M := by rw [mostAt_succ] at h; omega
      by_cases e : j = k
      · subst e; unfold runOk; simpa using h1.2
      · exact ih.1 h1.1 j (by omega)
    · intro h
      have h1 := ih.2 (fun j hj => h j (by omega))
      have h2 := h k (by omega)
      unfold runOk at h2
      have h3 : (runAt xs (k + 1) : Int) ≤ M := by simpa using h2
      rw [mostAt_succ]; omega
theorem most_runs {xs : List Int} {M : Int} {n : Nat} (hM : 0 ≤ M) (hl : xs.length = n) : decide (M < (mostAt xs n : Int)) = !runsB M xs := by
  rcases hr : runsB M xs with _ | _
  · have : ¬ (mostAt xs n : Int) ≤ M := by
      intro h
      have := (most_ok hM n).1 h
      unfold runsB at hr
      rw [List.all_eq_false] at hr
      obtain ⟨j, hj, hjf⟩ := hr
      exact hjf (this j (by have := List.mem_range.1 hj; omega))
    simp; omega
  · have : (mostAt xs n : Int) ≤ M := (most_ok hM n).2 (fun j hj => all_range_at (n := xs.length) hr (by omega))
    simp; omega
theorem most_up {xs : List Int} {k : Nat} (h : mostAt xs k < runAt xs (k + 1)) : mostAt xs (k + 1) = runAt xs (k + 1) := by rw [mostAt_succ]; omega
theorem most_on {xs : List Int} {k : Nat} (h : ¬ mostAt xs k < runAt xs (k + 1)) : mostAt xs (k + 1) = mostAt xs k := by rw [mostAt_succ]; omega

set_option maxRecDepth 100000 in
set_option maxHeartbeats 4000000 in
theorem l02Fault_any (m : Mk) (A : Option Addr) (n c : Nat) (xs : List Int) (w : World) (h : Ints w w.heap.size A n xs) (hn : n ≤ 1048576) (hc0 : n ≤ c) (hcm : c ≤ 9223372036854775807) (hm : m.ok = true) :
    Calls Try.prog 123 #[.agg #[.int .i64 m.C, .int .i64 m.D, .int .i64 m.S, .int .i64 m.M, .int .i64 m.L], .slice A n c] w
      fun e w' => e = .returned (.int .i64 (faultV m xs)) ∧ Below w.heap.size w w' := by
  obtain ⟨m1, m2, m3, m4, m5, m6, m7, m8, m9, m10, m11⟩ := Mk.ok_true hm
  have HL := Lib.hid h.len
  have b0 := Lib.hid ((Below.refl w.heap.size w).alloc (Nat.le_refl _) (.cells #[.int .i64 m.C, .int .i64 m.D, .int .i64 m.S, .int .i64 m.M, .int .i64 m.L] 25))
  have hx := Lib.hid (Boxed.new w 25 m)
  clear hm
  rcases hq1 : ((n : Int) == m.C) with _ | _
  · have HF := Lib.hid (fault1 (m := m) (xs := xs) (by rw [HL.out]; simpa using hq1))
    have hq1' : ((n : Int) != m.C) = true := by rw [bne, hq1]; rfl
    clear hq1
    go_enter Try.func123, Try.ntmps123
    go_wp2
    go_ret
    exact ⟨ret_int HF.out.symm, b0.out⟩
  have HN : Hid ((xs.length : Int) = m.C) := Lib.hid (by rw [HL.out]; simpa using hq1)
  have hq1' : ((n : Int) != m.C) = false := by rw [bne, hq1]; rfl
  have hn6 : (n : Int) ≤ 6 := by have := HN.out; rw [HL.out] at this; omega
  go_enter Try.func123, Try.ntmps123
  go_wp2_with fail
  refine (l02Cuts_any m _ _ _ xs _ (h.on b0.out) hn m3 m4).mono ?_
  rw [hq1]
  rcases hq2 : allIn 0 (m.D - 1) xs with _ | _
  · rintro e w1 ⟨rfl, b1⟩
    have HF := Lib.hid (fault2 HN.out hq2)
    have c1 := below_trans' b0.out b1
    clear hq1 hq1' hq2 b1
    go_wp2
    go_ret
    exact ⟨ret_int HF.out.symm, c1⟩
  rintro e w1 ⟨rfl, b1⟩
  have HD := Lib.hid hq2
  have c1 := below_trans' b0.out b1
  have x1 := hx.out.on b1
  clear hq1 hq1' hq2 b1
  go_wp2
  go_loopw [5, 6, 7] (fun r z i wr => ∃ k : Nat, k ≤ n ∧ i = .int .i64 k ∧ r = .int .i64 (runAt xs k) ∧ z = .int .i64 (mostAt xs k) ∧ Hid (∀ j, j < k → stepAt m.S xs j = true) ∧ Boxed wr w.heap.size 25 m ∧ Below w.heap.size w wr) (fun _ _ i _ => n - (intOf i).toNat)
  case atStart => exact ⟨0, Nat.zero_le _, rfl, rfl, rfl, Lib.hid (fun j hj => absurd hj (by omega)), x1, c1⟩
  case round =>
    clear x1 c1
    obtain ⟨k, hk, rfl, rfl, rfl, hall, hbox, hb⟩ := hrel
    obtain ⟨q0, q1, q2, q3, q4⟩ := hbox.cells
    have HX := Lib.hid hbox
    clear hbox
    have hr := runAt_le xs k
    have hr1 := runAt_le xs (k + 1)
    have hz := mostAt_le xs k
    by_cases hlt : k < n
    · obtain ⟨ad, v, rfl, hab, hv, hc⟩ := (h.below hb).at_ hlt
      have HV := Lib.hid hv
      obtain ⟨v0, v1⟩ := allIn_at HD.out hv
      clear hv
      by_cases h3 : 0 < k
      · have d3 : decide (0 < k) = true := by simpa using h3
        obtain ⟨ad', u, e, _, hu, hc'⟩ := (h.below hb).at_ (show k - 1 < n by omega)
        obtain rfl : ad = ad' := by injection e
        clear e
        have HU := Lib.hid hu
        obtain ⟨u0, u1⟩ := allIn_at HD.out hu
        clear hu
        have s1 : IntKind.i64.wrap ((k : Int) - 1) = (k : Int) - 1 := IntWalk.i64_in _ (by omega)
        have s2 : 0 ≤ (k : Int) - 1 := by omega
        have s3 : ((k : Int) - 1).toNat = k - 1 := by omega
        have s4 : (k : Int) - 1 < (n : Int) := by omega
        have s5 : (1 : Int) ≤ (k : Int) := by omega
        have s6 : IntKind.i64.wrap (v - u) = v - u := IntWalk.i64_in _ (by omega)
        rcases hq : inB (v - u) (-m.S) m.S with _ | _
        · have HF := Lib.hid (fault3 HN.out HD.out (not_all_range (n := xs.length) (by rw [HL.out]; exact hlt) (by rw [step_is HV.out HU.out h3]; exact hq)))
          have dq : decide (m.S < absI (v - u)) = true := by rw [abs_step, hq]; rfl
          clear hq
          go_wp2
          go_quiet ((go_at_call 138; exact quiet_left (l01Abs_any _ _ (by omega) (by omega))))
          clear s1 s2 s3 s4 s5 s6
          go_wp2
          go_ret
          exact ⟨ret_int HF.out.symm, below_drewN hb _⟩
        · have dq : decide (m.S < absI (v - u)) = false := by rw [abs_step, hq]; rfl
          have HS := Lib.hid (all_next hall.out (show stepAt m.S xs k = true by rw [step_is HV.out HU.out h3]; exact hq))
          clear hq
          by_cases h4 : v = u
          · have HR := Lib.hid (run_on HV.out HU.out h4)
            have h4' : (v != u) = false := by simp [h4]
            clear h4
            by_cases h5 : mostAt xs k < runAt xs k + 1
            · have HZ := Lib.hid (most_up (xs := xs) (k := k) (by rw [HR.out]; exact h5))
              go_wp2
              go_quiet ((go_at_call 138; exact quiet_left (l01Abs_any _ _ (by omega) (by omega))))
              go_wp2
              go_quiet (fail)
              clear s1 s2 s3 s4 s5 s6
              go_wp2
              go_roundw
              case rel => exact ⟨k + 1, by omega, by go_num, by rw [HR.out]; go_num, by rw [HZ.out, HR.out]; first | go_num | (refine congrArg _ ?_; omega), HS, HX.out.drewN _, below_drewN hb _⟩
              case measure => simp [intOf]; omega
            · have HZ := Lib.hid (most_on (xs := xs) (k := k) (by rw [HR.out]; exact h5))
              go_wp2
              go_quiet ((go_at_call 138; exact quiet_left (l01Abs_any _ _ (by omega) (by omega))))
              go_wp2
              go_quiet (fail)
              clear s1 s2 s3 s4 s5 s6
              go_wp2
              go_roundw
              case rel => exact ⟨k + 1, by omega, by go_num, by rw [HR.out]; go_num, by rw [HZ.out], HS, HX.out.drewN _, below_drewN hb _⟩
              case measure => simp [intOf]; omega
          · have HR := Lib.hid (run_new HV.out HU.out h3 h4)
            have h4' : (v != u) = true := by simp [h4]
            clear h4
            by_cases h5 : mostAt xs k < 1
            · have HZ := Lib.hid (most_up (xs := xs) (k := k) (by rw [HR.out]; exact h5))
              go_wp2
              go_quiet ((go_at_call 138; exact quiet_left (l01Abs_any _ _ (by omega) (by omega))))
              go_wp2
              go_quiet (fail)
              clear s1 s2 s3 s4 s5 s6
              go_wp2
              go_roundw
              case rel => exact ⟨k + 1, by omega, by go_num, by rw [HR.out]; go_num, by rw [HZ.out, HR.out]; first | go_num | (refine congrArg _ ?_; omega), HS, HX.out.drewN _, below_drewN hb _⟩
              case measure => simp [intOf]; omega
            · have HZ := Lib.hid (most_on (xs := xs) (k := k) (by rw [HR.out]; exact h5))
              go_wp2
              go_quiet ((go_at_call 138; exact quiet_left (l01Abs_any _ _ (by omega) (by omega))))
              go_wp2
              go_quiet (fail)
              clear s1 s2 s3 s4 s5 s6
              go_wp2
              go_roundw
              case rel => exact ⟨k + 1, by omega, by go_num, by rw [HR.out]; go_num, by rw [HZ.out], HS, HX.out.drewN _, below_drewN hb _⟩
              case measure => simp [intOf]; omega
      · have d3 : decide (0 < k) = false := by simpa using h3
        have HR := Lib.hid (run_first (xs := xs) h3)
        have HS := Lib.hid (all_next hall.out (step_first' (S := m.S) (xs := xs) h3))
        by_cases h5 : mostAt xs k < runAt xs k + 1
        · have HZ := Lib.hid (most_up (xs := xs) (k := k) (by rw [HR.out]; exact h5))
          go_wp2
          go_quiet (fail)
          go_wp2
          go_quiet (fail)
          go_wp2
          go_roundw
          case rel => exact ⟨k + 1, by omega, by go_num, by rw [HR.out]; go_num, by rw [HZ.out, HR.out]; first | go_num | (refine congrArg _ ?_; omega), HS, HX.out.drewN _, below_drewN hb _⟩
          case measure => simp [intOf]; omega
        · have HZ := Lib.hid (most_on (xs := xs) (k := k) (by rw [HR.out]; exact h5))
          go_wp2
          go_quiet (fail)
          go_wp2
          go_quiet (fail)
          go_wp2
          go_roundw
          case rel => exact ⟨k + 1, by omega, by go_num, by rw [HR.out]; go_num, by exfalso; omega, HS, HX.out.drewN _, below_drewN hb _⟩
          case measure => simp [intOf]; omega
    · obtain rfl : k = n := by omega
      have HS : Hid (stepsB m.S xs = true) := Lib.hid (all_range (n := xs.length) (k := k) (by rw [HL.out]; exact hlt) hall.out)
      clear hall
      rcases hq4 : runsB m.M xs with _ | _
      · have HF := Lib.hid (fault4 HN.out HD.out HS.out hq4)
        have d4 : decide (m.M < (mostAt xs k : Int)) = true := by rw [most_runs (by omega) HL.out, hq4]; rfl
        clear hq4
        go_wp2
        go_ret
        exact ⟨ret_int HF.out.symm, hb⟩
      · have d4 : decide (m.M < (mostAt xs k : Int)) = false := by rw [most_runs (by omega) HL.out, hq4]; rfl
        have HR := Lib.hid hq4
        clear hq4
        have hkk := kinds_le xs
        rw [HL.out] at hkk
        by_cases h5 : (kinds xs : Int) < m.L
        · have HF := Lib.hid (fault5 HN.out HD.out HS.out HR.out h5)
          have d5 : decide ((kinds xs : Int) < m.L) = true := by simpa using h5
          go_wp2
          go_quiet ((go_at_call 136; exact quiet_on (l02Kinds_any _ _ _ xs _ (ints_drewN ((h.below hb).more hb.size) _) hn hc0 hcm)))
          go_wp2
          go_ret
          exact ⟨ret_int HF.out.symm, below_drewN hb _⟩
        · have HF := Lib.hid (fault0 HN.out HD.out HS.out HR.out h5)
          have d5 : decide ((kinds xs : Int) < m.L) = false := by simpa using h5
          go_wp2
          go_quiet ((go_at_call 136; exact quiet_on (l02Kinds_any _ _ _ xs _ (ints_drewN ((h.below hb).more hb.size) _) hn hc0 hcm)))
          go_wp2
          go_ret
          exact ⟨ret_int HF.out.symm, below_drewN hb _⟩

end Go.Proofs.Ytgbicepneonkfaa
