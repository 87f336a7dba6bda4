/- The rules for cuts: contracts of the program's functions. The rules for cuts: runs of equal cuts, and different cuts. -/
import Derived.Test.YtjoknbknhfnggaaMkMath
import Derived.Deep.RegionHeld3
namespace Go.Proofs.Ytjoknbknhfnggaa
open Go.RowKit

theorem hasAllChambers_any (m : Mk) (A : Option Addr) (n c : Nat) (w : World) :
    Calls Try.prog 129 #[.agg #[.int .i64 m.C, .int .i64 m.D, .int .i64 m.S, .int .i64 m.M, .int .i64 m.L], .slice A n c] w
      fun e w' => e = .returned (.bool ((n : Int) == m.C)) ∧ Below w.heap.size w w' := by
  go_enter Try.func129, Try.ntmps129
  go_wp2
  go_ret
  exact ⟨rfl, (Below.refl _ _).alloc (Nat.le_refl _) _⟩

theorem hasOnlyDepths_any (m : Mk) (A : Option Addr) (n c : Nat) (xs : List Int) (w : World) (h : Ints w w.heap.size A n xs) (hn : n ≤ 1048576) (d0 : 2 ≤ m.D) (d1 : m.D ≤ 8) :
    Calls Try.prog 130 #[.agg #[.int .i64 m.C, .int .i64 m.D, .int .i64 m.S, .int .i64 m.M, .int .i64 m.L], .slice A n c] w
      fun e w' => e = .returned (.bool (allIn 0 (m.D - 1) xs)) ∧ Below w.heap.size w w' := by
  have HL := Lib.hid h.len
  have b0 := (Below.refl w.heap.size w).alloc (Nat.le_refl _) (.cells #[.int .i64 m.C, .int .i64 m.D, .int .i64 m.S, .int .i64 m.M, .int .i64 m.L] 25)
  have h' := h.below b0
  go_enter Try.func130, Try.ntmps130
  go_wp2
  go_loop [9] (fun i => ∃ k : Nat, k ≤ n ∧ i = .int .i64 k ∧ Hid (allIn 0 (m.D - 1) (xs.take k) = true)) (fun i => n - (intOf i).toNat)
  case atStart => exact ⟨0, Nat.zero_le _, rfl, Lib.hid rfl⟩
  case round =>
    obtain ⟨k, hk, rfl, hall⟩ := hrel
    by_cases hlt : k < n
    · obtain ⟨ad, v, rfl, hab, hv, hc⟩ := h'.at_ hlt
      have HV := Lib.hid hv
      clear hv
      rcases hq : inB v 0 (m.D - 1) with _ | _
      · go_wp2_with (go_at_call 74; refine (isWithin_at _ _ _ _ _ hq).mono ?_; rintro e w' ⟨rfl, rfl⟩)
        go_ret
        exact ⟨ret_bool (allIn_no HV.out hq).symm, b0⟩
      · go_wp2_with (go_at_call 74; refine (isWithin_at _ _ _ _ _ hq).mono ?_; rintro e w' ⟨rfl, rfl⟩)
        go_round
        case rel => exact ⟨k + 1, by omega, by go_num, Lib.hid (allIn_step HV.out hall.out hq)⟩
        case measure => simp [intOf]; omega
    · have HA : Hid (allIn 0 (m.D - 1) xs = true) := by rw [← take_end HL.out hlt]; exact hall
      clear hall
      go_wp2
      go_ret
      exact ⟨ret_bool HA.out.symm, b0⟩

theorem isStep_any (m : Mk) (a b : Int) (w : World) (a0 : 0 ≤ a) (a1 : a ≤ 7) (b0 : 0 ≤ b) (b1 : b ≤ 7) (s0 : 1 ≤ m.S) (s1 : m.S ≤ 7) :
    Calls Try.prog 134 #[.agg #[.int .i64 m.C, .int .i64 m.D, .int .i64 m.S, .int .i64 m.M, .int .i64 m.L], .int .i64 a, .int .i64 b] w
      fun e w' => e = .returned (.bool (inB (b - a) (-m.S) m.S)) ∧ Below w.heap.size w w' := by
  go_enter Try.func134, Try.ntmps134
  go_wp2_with (go_at_call 74; refine (isWithin_any _ _ _ _).mono ?_; rintro e w' ⟨rfl, rfl⟩)
  go_ret
  exact ⟨rfl, (Below.refl _ _).alloc (Nat.le_refl _) _⟩

theorem isStep_at (m : Mk) (a b : Int) (w : World) (q : Bool) (hq : inB (b - a) (-m.S) m.S = q) (a0 : 0 ≤ a) (a1 : a ≤ 7) (b0 : 0 ≤ b) (b1 : b ≤ 7) (s0 : 1 ≤ m.S) (s1 : m.S ≤ 7) :
    Calls Try.prog 134 #[.agg #[.int .i64 m.C, .int .i64 m.D, .int .i64 m.S, .int .i64 m.M, .int .i64 m.L], .int .i64 a, .int .i64 b] w
      fun e w' => e = .returned (.bool q) ∧ Below w.heap.size w w' := by
  subst hq; exact isStep_any m a b w a0 a1 b0 b1 s0 s1

set_option maxRecDepth 100000 in
theorem hasSmallSteps_any (m : Mk) (A : Option Addr) (n c : Nat) (xs : List Int) (w : World) (h : Ints w w.heap.size A n xs) (hn : n ≤ 1048576) (hm : m.ok = true) (hd : allIn 0 (m.D - 1) xs = true) :
    Calls Try.prog 131 #[.agg #[.int .i64 m.C, .int .i64 m.D, .int .i64 m.S, .int .i64 m.M, .int .i64 m.L], .slice A n c] w
      fun e w' => e = .returned (.bool (stepsB m.S xs)) ∧ Below w.heap.size w w' := by
  obtain ⟨m1, m2, m3, m4, m5, m6, m7, m8, m9, m10, m11⟩ := Mk.ok_true hm
  have HM := Lib.hid hm
  have HD := Lib.hid hd
  clear hm hd
  have HL := Lib.hid h.len
  have b0 := (Below.refl w.heap.size w).alloc (Nat.le_refl _) (.cells #[.int .i64 m.C, .int .i64 m.D, .int .i64 m.S, .int .i64 m.M, .int .i64 m.L] 25)
  have hx := Boxed.new w 25 m
  go_enter Try.func131, Try.ntmps131
  go_wp2
  go_loopw [5] (fun i wr => ∃ k : Nat, 1 ≤ k ∧ k ≤ n + 1 ∧ i = .int .i64 k ∧ Hid (∀ j, j < k → stepAt m.S xs j = true) ∧ Boxed wr w.heap.size 25 m ∧ Below w.heap.size w wr) (fun i _ => n + 1 - (intOf i).toNat)
  case atStart => exact ⟨1, by omega, by omega, rfl, Lib.hid (fun j hj => step_first' (by omega)), hx, b0⟩
  case round =>
    obtain ⟨k, hk1, hk, rfl, hall, hbox, hb⟩ := hrel
    have hi := h.below hb
    have hlt0 := hbox.lt
    by_cases hlt : k < n
    · obtain ⟨ad, v, rfl, hab, hv, hc⟩ := hi.at_ hlt
      obtain ⟨ad', u, e, _, hu, hc'⟩ := hi.at_ (show k - 1 < n by omega)
      obtain rfl : ad = ad' := by injection e
      clear e
      obtain ⟨v0, v1⟩ := allIn_at HD.out hv
      obtain ⟨u0, u1⟩ := allIn_at HD.out hu
      have HV := Lib.hid hv
      have HU := Lib.hid hu
      clear hv hu
      obtain ⟨q0, q1, q2, q3, q4⟩ := hbox.cells
      have HX := Lib.hid hbox
      clear hbox
      have s1 : IntKind.i64.wrap ((k : Int) - 1) = (k : Int) - 1 := IntWalk.i64_in _ (by omega)
      have s2 : 0 ≤ (k : Int) - 1 := by omega
      have s3 : ((k : Int) - 1).toNat = k - 1 := by omega
      have s4 : (k : Int) - 1 < (n : Int) := by omega
      have s5 : (1 : Int) ≤ (k : Int) := by omega
      have s6 : (0 : Int) ≤ (k : Int) := by omega
      have s7 : (k : Int) < (n : Int) := by omega
      rcases hq : inB (v - u) (-m.S) m.S with _ | _
      · go_wp2
        go_region_held3 (fun w' => w'.cell? ⟨w.heap.size, 0, none⟩ = some (.int .i64 m.C) ∧ w'.cell? ⟨w.heap.size, 1, none⟩ = some (.int .i64 m.D) ∧ w'.cell? ⟨w.heap.size, 2, none⟩ = some (.int .i64 m.S) ∧ w'.cell? ⟨w.heap.size, 3, none⟩ = some (.int .i64 m.M) ∧ w'.cell? ⟨w.heap.size, 4, none⟩ = some (.int .i64 m.L) ∧ w'.cell? (ad.add k) = some (.int .i64 v) ∧ w'.cell? (ad.add (k - 1)) = some (.int .i64 u))
          (first | go_keep | (go_split_ands; refine ⟨?_, ?_, ?_, ?_, ?_, ?_, ?_⟩ <;> (rw [b1.cell (by first | (simp; omega) | (rw [block_of_add]; simp; omega))]; assumption)))
          (first | (go_at_call 134; refine (isStep_at m u v _ _ hq (by omega) (by omega) (by omega) (by omega) (by omega) (by omega)).mono ?_; rintro e w1 ⟨rfl, b1⟩))
        clear s1 s2 s3 s4 s5 s6 s7 q0 q1 q2 q3 q4 hc hc'
        go_wp2
        go_ret
        exact ⟨ret_bool (not_all_range (by rw [HL.out]; exact hlt) (by rw [step_is HV.out HU.out (by omega)]; exact hq)).symm, hb.trans (((below_drewN (Below.refl wr.heap.size wr) 1).trans b1).mono hb.size)⟩
      · go_wp2
        go_region_held3 (fun w' => w'.cell? ⟨w.heap.size, 0, none⟩ = some (.int .i64 m.C) ∧ w'.cell? ⟨w.heap.size, 1, none⟩ = some (.int .i64 m.D) ∧ w'.cell? ⟨w.heap.size, 2, none⟩ = some (.int .i64 m.S) ∧ w'.cell? ⟨w.heap.size, 3, none⟩ = some (.int .i64 m.M) ∧ w'.cell? ⟨w.heap.size, 4, none⟩ = some (.int .i64 m.L) ∧ w'.cell? (ad.add k) = some (.int .i64 v) ∧ w'.cell? (ad.add (k - 1)) = some (.int .i64 u))
          (first | go_keep | (go_split_ands; refine ⟨?_, ?_, ?_, ?_, ?_, ?_, ?_⟩ <;> (rw [b1.cell (by first | (simp; omega) | (rw [block_of_add]; simp; omega))]; assumption)))
          (first | (go_at_call 134; refine (isStep_at m u v _ _ hq (by omega) (by omega) (by omega) (by omega) (by omega) (by omega)).mono ?_; rintro e w1 ⟨rfl, b1⟩))
        clear s1 s2 s3 s4 s5 s6 s7 q0 q1 q2 q3 q4 hc hc'
        have X1 := Lib.hid (HX.out.on (w' := w1) ((below_drewN (Below.refl _ _) 1).trans b1))
        have B1 := Lib.hid (hb.trans (((below_drewN (Below.refl wr.heap.size wr) 1).trans b1).mono hb.size))
        clear b1
        go_wp2
        go_roundw
        case rel => exact ⟨k + 1, by omega, by omega, by go_num, Lib.hid (all_next hall.out (by rw [step_is HV.out HU.out (by omega)]; exact hq)), X1.out, B1.out⟩
        case measure => simp [intOf]; omega
    · have HA : Hid (stepsB m.S xs = true) := Lib.hid (all_range (n := xs.length) (k := k) (by rw [HL.out]; exact hlt) hall.out)
      clear hall
      go_wp2
      go_ret
      exact ⟨ret_bool HA.out.symm, hb⟩

end Go.Proofs.Ytjoknbknhfnggaa

namespace Go.Proofs.Ytjoknbknhfnggaa
open Go.RowKit

set_option maxRecDepth 100000 in
theorem hasShortRuns_any (m : Mk) (A : Option Addr) (n c : Nat) (xs : List Int) (w : World) (h : Ints w w.heap.size A n xs) (hn : n ≤ 1048576) :
    Calls Try.prog 132 #[.agg #[.int .i64 m.C, .int .i64 m.D, .int .i64 m.S, .int .i64 m.M, .int .i64 m.L], .slice A n c] w
      fun e w' => e = .returned (.bool (runsB m.M xs)) ∧ Below w.heap.size w w' := by
  have HL := Lib.hid h.len
  have b0 := (Below.refl w.heap.size w).alloc (Nat.le_refl _) (.cells #[.int .i64 m.C, .int .i64 m.D, .int .i64 m.S, .int .i64 m.M, .int .i64 m.L] 25)
  have hi := h.below b0
  go_enter Try.func132, Try.ntmps132
  go_wp2
  go_loop [5, 10] (fun r i => ∃ k : Nat, k ≤ n ∧ i = .int .i64 k ∧ r = .int .i64 (runAt xs k) ∧ Hid (∀ j, j < k → runOk m.M xs j = true)) (fun _ i => n - (intOf i).toNat)
  case atStart => exact ⟨0, Nat.zero_le _, rfl, rfl, Lib.hid (fun j hj => absurd hj (by omega))⟩
  case round =>
    obtain ⟨k, hk, rfl, rfl, hall⟩ := hrel
    have hr := runAt_le xs k
    have hr1 := runAt_le xs (k + 1)
    by_cases hlt : k < n
    · obtain ⟨ad, v, rfl, hab, hv, hc⟩ := hi.at_ hlt
      have HV := Lib.hid hv
      clear hv
      by_cases h3 : 0 < k
      · obtain ⟨ad', u, e, _, hu, hc'⟩ := hi.at_ (show k - 1 < n by omega)
        obtain rfl : ad = ad' := by injection e
        clear e
        have HU := Lib.hid hu
        clear hu
        by_cases h4 : v = u
        · have HR := Lib.hid (run_on HV.out HU.out h4)
          have h4' : (v != u) = false := by simp [h4]
          clear h4
          by_cases h5 : m.M < (runAt xs k : Int) + 1
          · go_wp2
            go_ret
            exact ⟨ret_bool (not_all_range (by rw [HL.out]; exact hlt) (by unfold runOk; rw [HR.out]; simp; omega)).symm, b0⟩
          · go_wp2
            go_round
            case rel => exact ⟨k + 1, by omega, by go_num, by rw [HR.out]; go_num, Lib.hid (all_next hall.out (by unfold runOk; rw [HR.out]; simp; omega))⟩
            case measure => simp [intOf]; omega
        · have HR := Lib.hid (run_new HV.out HU.out h3 h4)
          have h4' : (v != u) = true := by simp [h4]
          clear h4
          by_cases h5 : m.M < 1
          · go_wp2
            go_ret
            exact ⟨ret_bool (not_all_range (by rw [HL.out]; exact hlt) (by unfold runOk; rw [HR.out]; simp; omega)).symm, b0⟩
          · go_wp2
            go_round
            case rel => exact ⟨k + 1, by omega, by go_num, by rw [HR.out]; go_num, Lib.hid (all_next hall.out (by unfold runOk; rw [HR.out]; simp; omega))⟩
            case measure => simp [intOf]; omega
      · have HR := Lib.hid (run_first (xs := xs) h3)
        by_cases h5 : m.M < (runAt xs k : Int) + 1
        · go_wp2
          go_ret
          exact ⟨ret_bool (not_all_range (by rw [HL.out]; exact hlt) (by unfold runOk; rw [HR.out]; simp; omega)).symm, b0⟩
        · go_wp2
          go_round
          case rel => exact ⟨k + 1, by omega, by go_num, by rw [HR.out]; go_num, Lib.hid (all_next hall.out (by unfold runOk; rw [HR.out]; simp; omega))⟩
          case measure => simp [intOf]; omega
    · have HA : Hid (runsB m.M xs = true) := Lib.hid (all_range (n := xs.length) (k := k) (by rw [HL.out]; exact hlt) hall.out)
      clear hall
      go_wp2
      go_ret
      exact ⟨ret_bool HA.out.symm, b0⟩

/-- whether a depth is among the first k cuts -/
def seenB (xs : List Int) (k : Nat) (v : Int) : Bool := (xs.take k).any (fun x => decide (x = v))
def seenV (xs : List Int) (k : Nat) (i : Nat) : Value := .bool (seenB xs k (i : Int))
theorem seen_same {xs : List Int} {k : Nat} {v : Int} (hv : xs[k]? = some v) (h : seenB xs k v = true) (i : Nat) : seenV xs k i = seenV xs (k + 1) i := by
  obtain ⟨hk, rfl⟩ := List.getElem?_eq_some_iff.1 hv
  unfold seenV seenB at *
  rw [List.take_succ_eq_append_getElem hk, List.any_append]
  simp only [List.any_cons, List.any_nil, Bool.or_false]
  by_cases e : xs[k] = (i : Int)
  · rw [← e, h]; rfl
  · simp [e]
theorem seen_set {xs : List Int} {k : Nat} {v : Int} (hv : xs[k]? = some v) (h0 : 0 ≤ v) (i : Nat) : (if i = v.toNat then Value.bool true else seenV xs k i) = seenV xs (k + 1) i := by
  obtain ⟨hk, rfl⟩ := List.getElem?_eq_some_iff.1 hv
  unfold seenV seenB
  rw [List.take_succ_eq_append_getElem hk, List.any_append]
  simp only [List.any_cons, List.any_nil, Bool.or_false]
  by_cases e : i = (xs[k]).toNat
  · rw [if_pos e, decide_eq_true (by omega), Bool.or_true]
  · rw [if_neg e, decide_eq_false (by omega), Bool.or_false]
theorem kinds_old {xs : List Int} {k : Nat} {v : Int} (hv : xs[k]? = some v) (h : seenB xs k v = true) : kindsAt xs (k + 1) = kindsAt xs k := by
  show kindsAt xs k + (if seenB xs k (xs.getD k 0) = true then 0 else 1) = _
  rw [getD_at hv, if_pos h, Nat.add_zero]
theorem kinds_new {xs : List Int} {k : Nat} {v : Int} (hv : xs[k]? = some v) (h : seenB xs k v = false) : kindsAt xs (k + 1) = kindsAt xs k + 1 := by
  show kindsAt xs k + (if seenB xs k (xs.getD k 0) = true then 0 else 1) = _
  rw [getD_at hv, if_neg (by simp [h])]

set_option maxRecDepth 100000 in
theorem hasEnoughCuts_any (m : Mk) (A : Option Addr) (n c : Nat) (xs : List Int) (w : World) (h : Ints w w.heap.size A n xs) (hn : n ≤ 1048576) (hm : m.ok = true) (hd : allIn 0 (m.D - 1) xs = true) :
    Calls Try.prog 133 #[.agg #[.int .i64 m.C, .int .i64 m.D, .int .i64 m.S, .int .i64 m.M, .int .i64 m.L], .slice A n c] w
      fun e w' => e = .returned (.bool (decide (m.L ≤ m.C - n + kinds xs))) ∧ Below w.heap.size w w' := by
  obtain ⟨m1, m2, m3, m4, m5, m6, m7, m8, m9, m10, m11⟩ := Mk.ok_true hm
  have HM := Lib.hid hm
  have HD := Lib.hid hd
  clear hm hd
  have HL := Lib.hid h.len
  have b0 := Lib.hid ((Below.refl w.heap.size w).alloc (Nat.le_refl _) (.cells #[.int .i64 m.C, .int .i64 m.D, .int .i64 m.S, .int .i64 m.M, .int .i64 m.L] 25))
  have hx := Lib.hid (Boxed.new w 25 m)
  go_enter Try.func133, Try.ntmps133
  go_wp2
  go_loopw [6, 16] (fun d i wr => ∃ k : Nat, k ≤ n ∧ i = .int .i64 k ∧ d = .int .i64 (m.C - n + kindsAt xs k) ∧ wr.rowIs (w.heap.size + 1) 136 8 (seenV xs k) ∧ Boxed wr w.heap.size 25 m ∧ Below w.heap.size w wr) (fun _ i _ => n - (intOf i).toNat)
  case atStart =>
    refine ⟨0, Nat.zero_le _, rfl, by simp [kindsAt], ⟨#[.bool false, .bool false, .bool false, .bool false, .bool false, .bool false, .bool false, .bool false], ?_, rfl, fun i hi => ?_⟩, hx.out.alloc _, b0.out.alloc (by simp) _⟩
    · have := heap_alloc_new (w.alloc (.cells #[.int .i64 m.C, .int .i64 m.D, .int .i64 m.S, .int .i64 m.M, .int .i64 m.L] 25)) (.cells #[.bool false, .bool false, .bool false, .bool false, .bool false, .bool false, .bool false, .bool false] 136)
      simpa using this
    match i, hi with
    | 0, _ => rfl
    | 1, _ => rfl
    | 2, _ => rfl
    | 3, _ => rfl
    | 4, _ => rfl
    | 5, _ => rfl
    | 6, _ => rfl
    | 7, _ => rfl
  case round =>
    obtain ⟨k, hk, rfl, rfl, hrow, hbox, hb⟩ := hrel
    have hr := kindsAt_le xs k
    obtain ⟨q0, q1, q2, q3, q4⟩ := hbox.cells
    by_cases hlt : k < n
    · obtain ⟨ad, v, rfl, hab, hv, hc⟩ := (h.below hb).at_ hlt
      obtain ⟨v0, v1⟩ := allIn_at HD.out hv
      have v2 : v < 8 := by omega
      have hcell := hrow.cell (show v.toNat < 8 by omega)
      have hfz := hrow.frozen v.toNat
      have HV := Lib.hid hv
      clear hv
      rcases hs : seenB xs k v with _ | _
      · have hcell' : wr.cell? ⟨w.heap.size + 1, v.toNat, none⟩ = some (.bool false) := by
          rw [hcell]; unfold seenV; rw [show ((v.toNat : Nat) : Int) = v by omega, hs]
        have HR := Lib.hid ((hrow.set v.toNat (.bool true)).congr (fun j _ => seen_set HV.out v0 j))
        have HX := Lib.hid (hbox.grown (grown_set (p := ⟨w.heap.size + 1, v.toNat, none⟩) (World.grownBy.refl wr _) rfl (.bool true)) (by simp))
        have HB := Lib.hid (hb.setCell (p := ⟨w.heap.size + 1, v.toNat, none⟩) (by simp) (.bool true))
        have HK := Lib.hid (kinds_new HV.out hs)
        clear hcell hrow hbox hs
        go_wp2
        go_roundw
        case rel => exact ⟨k + 1, by omega, by go_num, by rw [HK.out]; go_num, HR.out, HX.out, HB.out⟩
        case measure => simp [intOf]; omega
      · have hcell' : wr.cell? ⟨w.heap.size + 1, v.toNat, none⟩ = some (.bool true) := by
          rw [hcell]; unfold seenV; rw [show ((v.toNat : Nat) : Int) = v by omega, hs]
        have HR := Lib.hid (hrow.congr (fun j _ => seen_same HV.out hs j))
        have HX := Lib.hid hbox
        have HK := Lib.hid (kinds_old HV.out hs)
        clear hcell hrow hbox hs
        go_wp2
        go_roundw
        case rel => exact ⟨k + 1, by omega, by go_num, by rw [HK.out], HR.out, HX.out, hb⟩
        case measure => simp [intOf]; omega
    · have HK := Lib.hid (show k = n by omega)
      go_wp2
      go_ret
      exact ⟨ret_bool (by unfold kinds; rw [HL.out, HK.out]), hb⟩

end Go.Proofs.Ytjoknbknhfnggaa
