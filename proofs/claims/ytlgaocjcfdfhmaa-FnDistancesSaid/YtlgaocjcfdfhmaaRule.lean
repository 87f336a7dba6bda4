/- The rules for cuts: contracts of the program's functions. -/
import Derived.Test.YtlgaocjcfdfhmaaMkMath
import Derived.Deep.RegionHeld3
namespace Go.Proofs.Ytlgaocjcfdfhmaa
open Go.RowKit

theorem hasAllChambers_any (m : Mk) (A : Option Addr) (n c : Nat) (w : World) :
    Calls Try.prog 61 #[.agg #[.int .i64 m.C, .int .i64 m.D, .int .i64 m.S, .int .i64 m.M, .int .i64 m.L], .slice A n c] w
      fun e w' => e = .returned (.bool ((n : Int) == m.C)) ∧ Below w.heap.size w w' := by
  go_enter Try.func61, Try.ntmps61
  go_wp2
  go_ret
  exact ⟨rfl, (Below.refl _ _).alloc (Nat.le_refl _) _⟩

theorem hasOnlyDepths_any (m : Mk) (A : Option Addr) (n c : Nat) (xs : List Int) (w : World) (h : Ints w w.heap.size A n xs) (hn : n ≤ 1048576) (d0 : 2 ≤ m.D) (d1 : m.D ≤ 8) :
    Calls Try.prog 62 #[.agg #[.int .i64 m.C, .int .i64 m.D, .int .i64 m.S, .int .i64 m.M, .int .i64 m.L], .slice A n c] w
      fun e w' => e = .returned (.bool (allIn 0 (m.D - 1) xs)) ∧ Below w.heap.size w w' := by
  have HL := Lib.hid h.len
  have b0 := (Below.refl w.heap.size w).alloc (Nat.le_refl _) (.cells #[.int .i64 m.C, .int .i64 m.D, .int .i64 m.S, .int .i64 m.M, .int .i64 m.L] 25)
  have h' := h.below b0
  go_enter Try.func62, Try.ntmps62
  go_wp2
  go_loop [9] (fun i => ∃ k : Nat, k ≤ n ∧ i = .int .i64 k ∧ Hid (allIn 0 (m.D - 1) (xs.take k) = true)) (fun i => n - (intOf i).toNat)
  case atStart => exact ⟨0, Nat.zero_le _, rfl, Lib.hid rfl⟩
  case round =>
    obtain ⟨k, hk, rfl, hall⟩ := hrel
    by_cases hlt : k < n
    · obtain ⟨ad, v, rfl, hab, hv, hc⟩ := h'.at_ hlt
      have HV := Lib.hid hv
      clear hv
      rcases hq : inB v 0 (m.D - 1) with _ | _
      · go_wp2_with (go_at_call 70; refine (isWithin_at _ _ _ _ _ hq).mono ?_; rintro e w' ⟨rfl, rfl⟩)
        go_ret
        exact ⟨ret_bool (allIn_no HV.out hq).symm, b0⟩
      · go_wp2_with (go_at_call 70; refine (isWithin_at _ _ _ _ _ hq).mono ?_; rintro e w' ⟨rfl, rfl⟩)
        go_round
        case rel => exact ⟨k + 1, by omega, by go_num, Lib.hid (allIn_step HV.out hall.out hq)⟩
        case measure => simp [intOf]; omega
    · have HA : Hid (allIn 0 (m.D - 1) xs = true) := by rw [← take_end HL.out hlt]; exact hall
      clear hall
      go_wp2
      go_ret
      exact ⟨ret_bool HA.out.symm, b0⟩

theorem isStep_any (m : Mk) (a b : Int) (w : World) (a0 : 0 ≤ a) (a1 : a ≤ 7) (b0 : 0 ≤ b) (b1 : b ≤ 7) (s0 : 1 ≤ m.S) (s1 : m.S ≤ 7) :
    Calls Try.prog 100 #[.agg #[.int .i64 m.C, .int .i64 m.D, .int .i64 m.S, .int .i64 m.M, .int .i64 m.L], .int .i64 a, .int .i64 b] w
      fun e w' => e = .returned (.bool (inB (b - a) (-m.S) m.S)) ∧ Below w.heap.size w w' := by
  go_enter Try.func100, Try.ntmps100
  go_wp2_with (go_at_call 70; refine (isWithin_any _ _ _ _).mono ?_; rintro e w' ⟨rfl, rfl⟩)
  go_ret
  exact ⟨rfl, (Below.refl _ _).alloc (Nat.le_refl _) _⟩

theorem isStep_at (m : Mk) (a b : Int) (w : World) (q : Bool) (hq : inB (b - a) (-m.S) m.S = q) (a0 : 0 ≤ a) (a1 : a ≤ 7) (b0 : 0 ≤ b) (b1 : b ≤ 7) (s0 : 1 ≤ m.S) (s1 : m.S ≤ 7) :
    Calls Try.prog 100 #[.agg #[.int .i64 m.C, .int .i64 m.D, .int .i64 m.S, .int .i64 m.M, .int .i64 m.L], .int .i64 a, .int .i64 b] w
      fun e w' => e = .returned (.bool q) ∧ Below w.heap.size w w' := by
  subst hq; exact isStep_any m a b w a0 a1 b0 b1 s0 s1

set_option maxRecDepth 100000 in
theorem hasSmallSteps_any (m : Mk) (A : Option Addr) (n c : Nat) (xs : List Int) (w : World) (h : Ints w w.heap.size A n xs) (hn : n ≤ 1048576) (hm : m.ok = true) (hd : allIn 0 (m.D - 1) xs = true) :
    Calls Try.prog 97 #[.agg #[.int .i64 m.C, .int .i64 m.D, .int .i64 m.S, .int .i64 m.M, .int .i64 m.L], .slice A n c] w
      fun e w' => e = .returned (.bool (stepsB m.S xs)) ∧ Below w.heap.size w w' := by
  obtain ⟨m1, m2, m3, m4, m5, m6, m7, m8, m9, m10, m11⟩ := Mk.ok_true hm
  have HM := Lib.hid hm
  have HD := Lib.hid hd
  clear hm hd
  have HL := Lib.hid h.len
  have b0 := (Below.refl w.heap.size w).alloc (Nat.le_refl _) (.cells #[.int .i64 m.C, .int .i64 m.D, .int .i64 m.S, .int .i64 m.M, .int .i64 m.L] 25)
  have hx := Boxed.new w 25 m
  go_enter Try.func97, Try.ntmps97
  go_wp2
  go_loopw [5] (fun i wr => ∃ k : Nat, 1 ≤ k ∧ k ≤ n + 1 ∧ i = .int .i64 k ∧ Hid (∀ j, j < k → stepAt m.S xs j = true) ∧ Boxed wr w.heap.size 25 m ∧ Below w.heap.size w wr) (fun i _ => n + 1 - (intOf i).toNat)
  case atStart => exact ⟨1, by omega, by omega, rfl, Lib.hid (fun j hj => step_first' (by omega)), hx, b0⟩
  case round =>
    obtain ⟨k, hk1, hk, rfl, hall, hbox, hb⟩ := hrel
    have hi := h.below hb
    have hlt0 := hbox.lt
    by_cases hlt : k < n
    · obtain ⟨ad, v, rfl, hab, hv, hc⟩ := hi.at_ hlt
      obtain ⟨ad', u, e, _, hu, hc'⟩ := hi.at_ (show k - 1 < n by omega)
      obtain rfl : ad = ad' := by injection e
      clear e
      obtain ⟨v0, v1⟩ := allIn_at HD.out hv
      obtain ⟨u0, u1⟩ := allIn_at HD.out hu
      have HV := Lib.hid hv
      have HU := Lib.hid hu
      clear hv hu
      obtain ⟨q0, q1, q2, q3, q4⟩ := hbox.cells
      have HX := Lib.hid hbox
      clear hbox
      have s1 : IntKind.i64.wrap ((k : Int) - 1) = (k : Int) - 1 := IntWalk.i64_in _ (by omega)
      have s2 : 0 ≤ (k : Int) - 1 := by omega
      have s3 : ((k : Int) - 1).toNat = k - 1 := by omega
      have s4 : (k : Int) - 1 < (n : Int) := by omega
      have s5 : (1 : Int) ≤ (k : Int) := by omega
      have s6 : (0 : Int) ≤ (k : Int) := by omega
      have s7 : (k : Int) < (n : Int) := by omega
      rcases hq : inB (v - u) (-m.S) m.S with _ | _
      · go_wp2
        go_region_held3 (fun w' => w'.cell? ⟨w.heap.size, 0, none⟩ = some (.int .i64 m.C) ∧ w'.cell? ⟨w.heap.size, 1, none⟩ = some (.int .i64 m.D) ∧ w'.cell? ⟨w.heap.size, 2, none⟩ = some (.int .i64 m.S) ∧ w'.cell? ⟨w.heap.size, 3, none⟩ = some (.int .i64 m.M) ∧ w'.cell? ⟨w.heap.size, 4, none⟩ = some (.int .i64 m.L) ∧ w'.cell? (ad.add k) = some (.int .i64 v) ∧ w'.cell? (ad.add (k - 1)) = some (.int .i64 u))
          (first | go_keep | (go_split_ands; refine ⟨?_, ?_, ?_, ?_, ?_, ?_, ?_⟩ <;> (rw [b1.cell (by first | (simp; omega) | (rw [block_of_add]; simp; omega))]; assumption)))
          (first | (go_at_call 100; refine (isStep_at m u v _ _ hq (by omega) (by omega) (by omega) (by omega) (by omega) (by omega)).mono ?_; rintro e w1 ⟨rfl, b1⟩))
        clear s1 s2 s3 s4 s5 s6 s7 q0 q1 q2 q3 q4 hc hc'
        go_wp2
        go_ret
        exact ⟨ret_bool (not_all_range (by rw [HL.out]; exact hlt) (by rw [step_is HV.out HU.out (by omega)]; exact hq)).symm, hb.trans (((below_drewN (Below.refl wr.heap.size wr) 1).trans b1).mono hb.size)⟩
      · go_wp2
        go_region_held3 (fun w' => w'.cell? ⟨w.heap.size, 0, none⟩ = some (.int .i64 m.C) ∧ w'.cell? ⟨w.heap.size, 1, none⟩ = some (.int .i64 m.D) ∧ w'.cell? ⟨w.heap.size, 2, none⟩ = some (.int .i64 m.S) ∧ w'.cell? ⟨w.heap.size, 3, none⟩ = some (.int .i64 m.M) ∧ w'.cell? ⟨w.heap.size, 4, none⟩ = some (.int .i64 m.L) ∧ w'.cell? (ad.add k) = some (.int .i64 v) ∧ w'.cell? (ad.add (k - 1)) = some (.int .i64 u))
          (first | go_keep | (go_split_ands; refine ⟨?_, ?_, ?_, ?_, ?_, ?_, ?_⟩ <;> (rw [b1.cell (by first | (simp; omega) | (rw [block_of_add]; simp; omega))]; assumption)))
          (first | (go_at_call 100; refine (isStep_at m u v _ _ hq (by omega) (by omega) (by omega) (by omega) (by omega) (by omega)).mono ?_; rintro e w1 ⟨rfl, b1⟩))
        clear s1 s2 s3 s4 s5 s6 s7 q0 q1 q2 q3 q4 hc hc'
        have X1 := Lib.hid (HX.out.on (w' := w1) ((below_drewN (Below.refl _ _) 1).trans b1))
        have B1 := Lib.hid (hb.trans (((below_drewN (Below.refl wr.heap.size wr) 1).trans b1).mono hb.size))
        clear b1
        go_wp2
        go_roundw
        case rel => exact ⟨k + 1, by omega, by omega, by go_num, Lib.hid (all_next hall.out (by rw [step_is HV.out HU.out (by omega)]; exact hq)), X1.out, B1.out⟩
        case measure => simp [intOf]; omega
    · have HA : Hid (stepsB m.S xs = true) := Lib.hid (all_range (n := xs.length) (k := k) (by rw [HL.out]; exact hlt) hall.out)
      clear hall
      go_wp2
      go_ret
      exact ⟨ret_bool HA.out.symm, hb⟩

end Go.Proofs.Ytlgaocjcfdfhmaa
