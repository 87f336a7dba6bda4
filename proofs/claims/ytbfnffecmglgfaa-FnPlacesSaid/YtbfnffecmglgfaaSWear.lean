/- Free places, worn cuts and worn keys of the model. -/
import Derived.Test.YtbfnffecmglgfaaWear
import Derived.Test.YtbfnffecmglgfaaPair
namespace Go.Proofs.Ytbfnffecmglgfaa
open Go Go.RowKit

theorem freeL_yes {ys : List Int} {t x v : Int} {k : Nat} (hv : ys[k]? = some v) (h : absI (x - 10 * v) ≤ t) : freeL ys t x = true := by
  unfold freeL
  rw [List.any_eq_true]
  exact ⟨v, List.mem_of_getElem? hv, by simpa using h⟩
theorem freeL_no {ys : List Int} {t x : Int} {n k : Nat} (hl : ys.length = n) (hk : ¬ k < n) (h : ∀ j v, j < k → ys[j]? = some v → t < absI (x - 10 * v)) : freeL ys t x = false := by
  unfold freeL
  rw [List.any_eq_false]
  intro v hv
  obtain ⟨j, hj⟩ := List.getElem?_of_mem hv
  have := h j v (by have := (List.getElem?_eq_some_iff.1 hj).1; omega) hj
  simpa using this

set_option maxRecDepth 100000 in
set_option maxHeartbeats 2000000 in
theorem l08Free_any (A : Option Addr) (n c : Nat) (ys : List Int) (x t : Int) (w : World) (h : Ints w w.heap.size A n ys) (hn : n ≤ 1048576) (ha : allIn 0 7 ys = true) (x0 : 0 ≤ x) (x9 : x ≤ 200) :
    Calls Try.prog 133 #[.slice A n c, .int .i64 x, .int .i64 t] w fun e w' => e = .returned (.bool (freeL ys t x)) ∧ w = w' := by
  have HL := Lib.hid h.len
  have HA := Lib.hid ha
  clear ha
  go_enter Try.func133, Try.ntmps133
  go_wp2
  go_loop [7] (fun i => ∃ k : Nat, i = .int .i64 k ∧ k ≤ n ∧ Hid (∀ j v, j < k → ys[j]? = some v → t < absI (x - 10 * v))) (fun i => n - (intOf i).toNat)
  case atStart => exact ⟨0, rfl, Nat.zero_le _, Lib.hid (fun j v hj => absurd hj (by omega))⟩
  case round =>
    obtain ⟨k, rfl, hk, hall⟩ := hrel
    by_cases hlt : k < n
    · obtain ⟨ad, v, rfl, hab, hv, hc⟩ := h.at_ hlt
      obtain ⟨v0, v1⟩ := allIn_at HA.out hv
      have HV := Lib.hid hv
      have i0 : (0 : Int) ≤ (k : Int) := by omega
      have i1 : (k : Int) < (n : Int) := by omega
      have g1 : IntKind.i64.wrap (10 * v) = 10 * v := IntWalk.i64_in _ (by omega)
      have g2 : IntKind.i64.wrap (x - 10 * v) = x - 10 * v := IntWalk.i64_in _ (by omega)
      clear hv
      by_cases hf : absI (x - 10 * v) ≤ t
      · have HE := Lib.hid (freeL_yes HV.out hf)
        obtain ⟨r, hr⟩ : ∃ r, r = absI (x - 10 * v) := ⟨_, rfl⟩
        have d1 : decide (r ≤ t) = true := by rw [hr]; simpa using hf
        clear hf
        go_wp2_with fail
        refine (l01Abs_at (x - 10 * v) r hr _ (by omega) (by omega)).mono ?_
        rintro e w' ⟨rfl, rfl⟩
        clear hr
        go_wp2
        go_ret
        exact ⟨ret_bool HE.out.symm, rfl⟩
      · have HA2 : Hid (∀ j u, j < k + 1 → ys[j]? = some u → t < absI (x - 10 * u)) := Lib.hid (fun j u hj hu => by
          rcases Nat.lt_or_ge j k with h1 | h1
          · exact hall.out j u h1 hu
          · obtain rfl : j = k := by omega
            have := HV.out; rw [hu] at this; injection this with this; subst this; omega)
        obtain ⟨r, hr⟩ : ∃ r, r = absI (x - 10 * v) := ⟨_, rfl⟩
        have d1 : decide (r ≤ t) = false := by rw [hr]; simpa using hf
        clear hf
        go_wp2_with fail
        refine (l01Abs_at (x - 10 * v) r hr _ (by omega) (by omega)).mono ?_
        rintro e w' ⟨rfl, rfl⟩
        clear hr
        go_wp2
        go_round
        case rel => exact ⟨k + 1, by go_num, by omega, HA2⟩
        case measure => simp [intOf]; omega
    · have HE := Lib.hid (freeL_no (x := x) (t := t) HL.out hlt hall.out)
      go_wp2
      go_ret
      exact ⟨ret_bool HE.out.symm, rfl⟩

set_option maxRecDepth 100000 in
set_option maxHeartbeats 2000000 in
theorem l08Cut_any (A : Option Addr) (n c : Nat) (ys : List Int) (d r : Nat) (t : Int) (w : World) (h : Ints w w.heap.size A n ys) (hn : n ≤ 1048576) (ha : allIn 0 7 ys = true) (hd : d ≤ 8) (hr : r ≤ 20) (a b : Bool) (hA : someAt (freeL ys t) (d : Int) (r + 1) = a) (hB : everyAt (freeL ys t) (d : Int) (r + 1) = b) :
    Calls Try.prog 155 #[.slice A n c, .int .i64 (d : Int), .int .i64 (r : Int), .int .i64 t] w fun e w' => e = .returned (.tuple #[.bool a, .bool b]) ∧ w = w' := by
  subst hA hB
  have HA := Lib.hid ha
  have g0 : IntKind.i64.wrap (10 * (d : Int)) = 10 * (d : Int) := IntWalk.i64_in _ (by omega)
  clear ha
  go_enter Try.func155, Try.ntmps155
  go_wp2
  go_loop [10, 11, 12] (fun a b i => ∃ k : Nat, i = .int .i64 k ∧ k ≤ r + 1 ∧ a = .bool (someAt (freeL ys t) (d : Int) k) ∧ b = .bool (everyAt (freeL ys t) (d : Int) k)) (fun _ _ i => r + 1 - (intOf i).toNat)
  case atStart => exact ⟨0, rfl, Nat.zero_le _, rfl, rfl⟩
  case round =>
    obtain ⟨k, rfl, hk, rfl, rfl⟩ := hrel
    by_cases hlt : (k : Int) ≤ (r : Int)
    · have g1 : IntKind.i64.wrap (10 * (d : Int) + (k : Int)) = 10 * (d : Int) + (k : Int) := IntWalk.i64_in _ (by omega)
      have HS := Lib.hid (someAt_succ (freeL ys t) (d : Int) k)
      have HE := Lib.hid (everyAt_succ (freeL ys t) (d : Int) k)
      obtain ⟨s, hs⟩ : ∃ s, someAt (freeL ys t) (d : Int) k = s := ⟨_, rfl⟩
      obtain ⟨u, hu⟩ : ∃ u, everyAt (freeL ys t) (d : Int) k = u := ⟨_, rfl⟩
      have HS2 := Lib.hid hs
      have HU2 := Lib.hid hu
      rw [hs, hu]
      clear hs hu
      go_wp2_with fail
      refine (l08Free_any A n c ys (10 * (d : Int) + (k : Int)) t _ h hn HA.out (by omega) (by omega)).mono ?_
      obtain ⟨f, hf⟩ : ∃ f, freeL ys t (10 * (d : Int) + (k : Int)) = f := ⟨_, rfl⟩
      have HF := Lib.hid hf
      rw [hf]
      clear hf
      rintro e w' ⟨rfl, rfl⟩
      have R1 : Hid (someAt (freeL ys t) (d : Int) (k + 1) = (s || f)) := Lib.hid (by rw [HS.out, HS2.out, HF.out])
      have R2 : Hid (everyAt (freeL ys t) (d : Int) (k + 1) = (u && f)) := Lib.hid (by rw [HE.out, HU2.out, HF.out])
      clear HS HE HS2 HU2 HF
      rcases s with _ | _ <;> rcases u with _ | _ <;> rcases f with _ | _
      all_goals
        go_wp2
        go_round
        case rel => exact ⟨k + 1, by go_num, by omega, by rw [R1.out]; rfl, by rw [R2.out]; rfl⟩
        case measure => simp [intOf]; omega
    · obtain rfl : k = r + 1 := by omega
      go_wp2
      go_ret2
      exact ⟨rfl, rfl⟩

end Go.Proofs.Ytbfnffecmglgfaa
