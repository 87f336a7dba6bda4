/- KeyFault and IsKey of the program. KeyFault and IsKey of the model: contracts. The rules for cuts in the model: contracts. -/
import Derived.Test.YtidjnnooeepklaaMk
import Derived.Laws.EntriesVeiled
namespace Go.Proofs.Ytidjnnooeepklaa
open Go.RowKit

/-- the rules by their places -/
def ruleB (m : Mk) (xs : List Int) : Nat → Bool
  | 0 => (xs.length : Int) == m.C
  | 1 => allIn 0 (m.D - 1) xs
  | 2 => stepsB m.S xs
  | 3 => runsB m.M xs
  | _ => decide (m.L ≤ m.C - xs.length + kinds xs)
theorem fault_at {m : Mk} {xs : List Int} {k : Nat} (hall : ∀ j, j < k → ruleB m xs j = true) (hk : k < 5) (h : ruleB m xs k = false) : faultV m xs = (k : Int) + 1 := by
  have g : ∀ j, j < k → ruleB m xs j = true := hall
  match k, hk, h with
  | 0, _, h => exact fault1 (by unfold ruleB at h; simpa using h)
  | 1, _, h => exact fault2 (by have := g 0 (by omega); unfold ruleB at this; simpa using this) h
  | 2, _, h => exact fault3 (by have := g 0 (by omega); unfold ruleB at this; simpa using this) (g 1 (by omega)) h
  | 3, _, h => exact fault4 (by have := g 0 (by omega); unfold ruleB at this; simpa using this) (g 1 (by omega)) (g 2 (by omega)) h
  | 4, _, h =>
    have e : (xs.length : Int) = m.C := by have := g 0 (by omega); unfold ruleB at this; simpa using this
    exact fault5 e (g 1 (by omega)) (g 2 (by omega)) (g 3 (by omega)) (by unfold ruleB at h; simp at h; omega)
theorem fault_none {m : Mk} {xs : List Int} {k : Nat} (hall : ∀ j, j < k → ruleB m xs j = true) (hk : ¬ k < 5) : faultV m xs = 0 := by
  have g : ∀ j, j < 5 → ruleB m xs j = true := fun j hj => hall j (by omega)
  have e : (xs.length : Int) = m.C := by have := g 0 (by omega); unfold ruleB at this; simpa using this
  exact fault0 e (g 1 (by omega)) (g 2 (by omega)) (g 3 (by omega)) (by have := g 4 (by omega); unfold ruleB at this; simp at this; omega)

def kfV (m : Mk) (xs : List Int) : Int := if m.ok then faultV m xs else 0
def kfE (m : Mk) : Int := if m.ok then 0 else 1

end Go.Proofs.Ytidjnnooeepklaa

namespace Go.Proofs.Ytidjnnooeepklaa
open Go.RowKit

def isKeyB (m : Mk) (xs : List Int) : Bool := m.ok && (faultV m xs == 0)
def absI (x : Int) : Int := if x < 0 then -x else x
theorem abs_step {S x : Int} : decide (S < absI x) = !inB x (-S) S := by
  unfold absI inB
  by_cases h : x < 0
  · rw [if_pos h, Bool.eq_iff_iff]; simp; omega
  · rw [if_neg h, Bool.eq_iff_iff]; simp; omega

theorem l01Has_any (A : Option Addr) (n c : Nat) (xs : List Int) (x : Int) (w : World) (h : Ints w w.heap.size A n xs) (hn : n ≤ 1048576) :
    Calls Try.prog 96 #[.slice A n c, .int .i64 x] w fun e w' => e = .returned (.bool (xs.any (fun y => decide (y = x)))) ∧ w = w' := by
  have HL := Lib.hid h.len
  go_enter Try.func96, Try.ntmps96
  go_wp2
  go_loop [5] (fun i => ∃ k : Nat, k ≤ n ∧ i = .int .i64 k ∧ Hid ((xs.take k).any (fun y => decide (y = x)) = false)) (fun i => n - (intOf i).toNat)
  case atStart => exact ⟨0, Nat.zero_le _, rfl, Lib.hid rfl⟩
  case round =>
    obtain ⟨k, hk, rfl, hall⟩ := hrel
    by_cases hlt : k < n
    · obtain ⟨ad, v, rfl, hab, hv, hc⟩ := h.at_ hlt
      have HV := Lib.hid hv
      clear hv
      rcases hq : (v == x) with _ | _
      · have hne : ¬ v = x := by simpa using hq
        have HN := Lib.hid hne
        clear hne
        go_wp2
        go_round
        case rel => exact ⟨k + 1, by omega, by go_num, Lib.hid (by
          obtain ⟨hk', hv'⟩ := List.getElem?_eq_some_iff.1 HV.out
          rw [List.take_succ_eq_append_getElem hk', List.any_append, hall.out, hv']
          simp [HN.out])⟩
        case measure => simp [intOf]; omega
      · have he : v = x := by simpa using hq
        have HE := Lib.hid he
        clear he
        go_wp2
        go_ret
        exact ⟨ret_bool (by
          rw [eq_comm, List.any_eq_true]
          exact ⟨v, List.mem_of_getElem? HV.out, by simp [HE.out]⟩), rfl⟩
    · have HA : Hid (xs.any (fun y => decide (y = x)) = false) := by rw [← take_end HL.out hlt]; exact hall
      clear hall
      go_wp2
      go_ret
      exact ⟨ret_bool HA.out.symm, rfl⟩

theorem l01Has_at (A : Option Addr) (n c : Nat) (xs : List Int) (x : Int) (w : World) (q : Bool) (h : Ints w w.heap.size A n xs) (hn : n ≤ 1048576) (hq : xs.any (fun y => decide (y = x)) = q) :
    Calls Try.prog 96 #[.slice A n c, .int .i64 x] w fun e w' => e = .returned (.bool q) ∧ w = w' := by
  subst hq; exact l01Has_any A n c xs x w h hn
theorem Ints.front {w : World} {B n k : Nat} {A : Option Addr} {xs : List Int} (h : Ints w B A n xs) (hk : k ≤ n) : Ints w B A k (xs.take k) := by
  refine ⟨by rw [List.length_take, h.len]; omega, fun h0 => ?_⟩
  obtain ⟨ad, e, hb, hc⟩ := h.2 (by omega)
  refine ⟨ad, e, hb, fun j v hv => hc j v ?_⟩
  rw [List.getElem?_take] at hv
  split at hv
  · exact hv
  · cases hv

end Go.Proofs.Ytidjnnooeepklaa

namespace Go.Proofs.Ytidjnnooeepklaa
open Go.RowKit

theorem quiet_on {P : Program} {f : FuncId} {args : Array Value} {w : World} {n : Nat} {v : Value}
    (h : Calls P f args (w.drewN n) fun e w' => e = .returned v ∧ ∃ m, w' = (w.drewN n).drewN m) :
    Calls P f args (w.drewN n) fun e w' => e = .returned v ∧ ∃ m, w' = w.drewN m :=
  h.mono fun _ _ ⟨he, m, hm⟩ => ⟨he, n + m, by rw [hm, World.drewN_drewN]⟩
theorem ints_drewN {w : World} {B n : Nat} {A : Option Addr} {xs : List Int} (h : Ints w B A n xs) (k : Nat) : Ints (w.drewN k) B A n xs := h.keep fun _ _ => rfl

/-- the greatest number of equal cuts before place j -/
def mostAt (xs : List Int) : Nat → Nat
  | 0 => 0
  | j + 1 => max (mostAt xs j) (runAt xs (j + 1))
theorem mostAt_succ (xs : List Int) (j : Nat) : mostAt xs (j + 1) = max (mostAt xs j) (runAt xs (j + 1)) := rfl
theorem mostAt_le (xs : List Int) (j : Nat) : mostAt xs j ≤ j := by
  induction j with
  | zero => simp [mostAt]
  | succ j ih => have := runAt_le xs (j + 1); rw [mostAt_succ]; omega
theorem most_ok {xs : List Int} {M : Int} (hM : 0 ≤ M) : ∀ k : Nat, ((mostAt xs k : Int) ≤ M ↔ ∀ j, j < k → runOk M xs j = true) := by
  intro k
  induction k with
  | zero => simp [mostAt]; exact hM
  | succ k ih =>
    constructor
    · intro h j hj
      have h1 : (mostAt xs k : Int) ≤ M ∧ (runAt xs (k + 1) : Int) ≤ M := by rw [mostAt_succ] at h; omega
      by_cases e : j = k
      · subst e; unfold runOk; simpa using h1.2
      · exact ih.1 h1.1 j (by omega)
    · intro h
      have h1 := ih.2 (fun j hj => h j (by omega))
      have h2 := h k (by omega)
      unfold runOk at h2
      have h3 : (runAt xs (k + 1) : Int) ≤ M := by simpa using h2
      rw [mostAt_succ]; omega
theorem most_runs {xs : List Int} {M : Int} {n : Nat} (hM : 0 ≤ M) (hl : xs.length = n) : decide (M < (mostAt xs n : Int)) = !runsB M xs := by
  rcases hr : runsB M xs with _ | _
  · have : ¬ (mostAt xs n : Int) ≤ M := by
      intro h
      have := (most_ok hM n).1 h
      unfold runsB at hr
      rw [List.all_eq_false] at hr
      obtain ⟨j, hj, hjf⟩ := hr
      exact hjf (this j (by have := List.mem_range.1 hj; omega))
    simp; omega
  · have : (mostAt xs n : Int) ≤ M := (most_ok hM n).2 (fun j hj => all_range_at (n := xs.length) hr (by omega))
    simp; omega
theorem most_up {xs : List Int} {k : Nat} (h : mostAt xs k < runAt xs (k + 1)) : mostAt xs (k + 1) = runAt xs (k + 1) := by rw [mostAt_succ]; omega
theorem most_on {xs : List Int} {k : Nat} (h : ¬ mostAt xs k < runAt xs (k + 1)) : mostAt xs (k + 1) = mostAt xs k := by rw [mostAt_succ]; omega

end Go.Proofs.Ytidjnnooeepklaa
