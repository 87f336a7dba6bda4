/- The rules for cuts: runs of equal cuts, and different cuts. -/
import Derived.Test.YtlgaocjcfdfhmaaRule
namespace Go.Proofs.Ytlgaocjcfdfhmaa
open Go.RowKit

set_option maxRecDepth 100000 in
theorem hasShortRuns_any (m : Mk) (A : Option Addr) (n c : Nat) (xs : List Int) (w : World) (h : Ints w w.heap.size A n xs) (hn : n ≤ 1048576) :
    Calls Try.prog 98 #[.agg #[.int .i64 m.C, .int .i64 m.D, .int .i64 m.S, .int .i64 m.M, .int .i64 m.L], .slice A n c] w
      fun e w' => e = .returned (.bool (runsB m.M xs)) ∧ Below w.heap.size w w' := by
  have HL := Lib.hid h.len
  have b0 := (Below.refl w.heap.size w).alloc (Nat.le_refl _) (.cells #[.int .i64 m.C, .int .i64 m.D, .int .i64 m.S, .int .i64 m.M, .int .i64 m.L] 25)
  have hi := h.below b0
  go_enter Try.func98, Try.ntmps98
  go_wp2
  go_loop [5, 10] (fun r i => ∃ k : Nat, k ≤ n ∧ i = .int .i64 k ∧ r = .int .i64 (runAt xs k) ∧ Hid (∀ j, j < k → runOk m.M xs j = true)) (fun _ i => n - (intOf i).toNat)
  case atStart => exact ⟨0, Nat.zero_le _, rfl, rfl, Lib.hid (fun j hj => absurd hj (by omega))⟩
  case round =>
    obtain ⟨k, hk, rfl, rfl, hall⟩ := hrel
    have hr := runAt_le xs k
    have hr1 := runAt_le xs (k + 1)
    by_cases hlt : k < n
    · obtain ⟨ad, v, rfl, hab, hv, hc⟩ := hi.at_ hlt
      have HV := Lib.hid hv
      clear hv
      by_cases h3 : 0 < k
      · obtain ⟨ad', u, e, _, hu, hc'⟩ := hi.at_ (show k - 1 < n by omega)
        obtain rfl : ad = ad' := by injection e
        clear e
        have HU := Lib.hid hu
        clear hu
        by_cases h4 : v = u
        · have HR := Lib.hid (run_on HV.out HU.out h4)
          have h4' : (v != u) = false := by simp [h4]
          clear h4
          by_cases h5 : m.M < (runAt xs k : Int) + 1
          · go_wp2
            go_ret
            exact ⟨ret_bool (not_all_range (by rw [HL.out]; exact hlt) (by unfold runOk; rw [HR.out]; simp; omega)).symm, b0⟩
          · go_wp2
            go_round
            case rel => exact ⟨k + 1, by omega, by go_num, by rw [HR.out]; go_num, Lib.hid (all_next hall.out (by unfold runOk; rw [HR.out]; simp; omega))⟩
            case measure => simp [intOf]; omega
        · have HR := Lib.hid (run_new HV.out HU.out h3 h4)
          have h4' : (v != u) = true := by simp [h4]
          clear h4
          by_cases h5 : m.M < 1
          · go_wp2
            go_ret
            exact ⟨ret_bool (not_all_range (by rw [HL.out]; exact hlt) (by unfold runOk; rw [HR.out]; simp; omega)).symm, b0⟩
          · go_wp2
            go_round
            case rel => exact ⟨k + 1, by omega, by go_num, by rw [HR.out]; go_num, Lib.hid (all_next hall.out (by unfold runOk; rw [HR.out]; simp; omega))⟩
            case measure => simp [intOf]; omega
      · have HR := Lib.hid (run_first (xs := xs) h3)
        by_cases h5 : m.M < (runAt xs k : Int) + 1
        · go_wp2
          go_ret
          exact ⟨ret_bool (not_all_range (by rw [HL.out]; exact hlt) (by unfold runOk; rw [HR.out]; simp; omega)).symm, b0⟩
        · go_wp2
          go_round
          case rel => exact ⟨k + 1, by omega, by go_num, by rw [HR.out]; go_num, Lib.hid (all_next hall.out (by unfold runOk; rw [HR.out]; simp; omega))⟩
          case measure => simp [intOf]; omega
    · have HA : Hid (runsB m.M xs = true) := Lib.hid (all_range (n := xs.length) (k := k) (by rw [HL.out]; exact hlt) hall.out)
      clear hall
      go_wp2
      go_ret
      exact ⟨ret_bool HA.out.symm, b0⟩

/-- whether a depth is among the first k cuts -/
def seenB (xs : List Int) (k : Nat) (v : Int) : Bool := (xs.take k).any (fun x => decide (x = v))
def seenV (xs : List Int) (k : Nat) (i : Nat) : Value := .bool (seenB xs k (i : Int))
theorem seen_same {xs : List Int} {k : Nat} {v : Int} (hv : xs[k]? = some v) (h : seenB xs k v = true) (i : Nat) : seenV xs k i = seenV xs (k + 1) i := by
  obtain ⟨hk, rfl⟩ := List.getElem?_eq_some_iff.1 hv
  unfold seenV seenB at *
  rw [List.take_succ_eq_append_getElem hk, List.any_append]
  simp only [List.any_cons, List.any_nil, Bool.or_false]
  by_cases e : xs[k] = (i : Int)
  · rw [← e, h]; rfl
  · simp [e]
theorem seen_set {xs : List Int} {k : Nat} {v : Int} (hv : xs[k]? = some v) (h0 : 0 ≤ v) (i : Nat) : (if i = v.toNat then Value.bool true else seenV xs k i) = seenV xs (k + 1) i := by
  obtain ⟨hk, rfl⟩ := List.getElem?_eq_some_iff.1 hv
  unfold seenV seenB
  rw [List.take_succ_eq_append_getElem hk, List.any_append]
  simp only [List.any_cons, List.any_nil, Bool.or_false]
  by_cases e : i = (xs[k]).toNat
  · rw [if_pos e, decide_eq_true (by omega), Bool.or_true]
  · rw [if_neg e, decide_eq_false (by omega), Bool.or_false]
theorem kinds_old {xs : List Int} {k : Nat} {v : Int} (hv : xs[k]? = some v) (h : seenB xs k v = true) : kindsAt xs (k + 1) = kindsAt xs k := by
  show kindsAt xs k + (if seenB xs k (xs.getD k 0) = true then 0 else 1) = _
  rw [getD_at hv, if_pos h, Nat.add_zero]
theorem kinds_new {xs : List Int} {k : Nat} {v : Int} (hv : xs[k]? = some v) (h : seenB xs k v = false) : kindsAt xs (k + 1) = kindsAt xs k + 1 := by
  show kindsAt xs k + (if seenB xs k (xs.getD k 0) = true then 0 else 1) = _
  rw [getD_at hv, if_neg (by simp [h])]

set_option maxRecDepth 100000 in
theorem hasEnoughCuts_any (m : Mk) (A : Option Addr) (n c : Nat) (xs : List Int) (w : World) (h : Ints w w.heap.size A n xs) (hn : n ≤ 1048576) (hm : m.ok = true) (hd : allIn 0 (m.D - 1) xs = true) :
    Calls Try.prog 99 #[.agg #[.int .i64 m.C, .int .i64 m.D, .int .i64 m.S, .int .i64 m.M, .int .i64 m.L], .slice A n c] w
      fun e w' => e = .returned (.bool (decide (m.L ≤ m.C - n + kinds xs))) ∧ Below w.heap.size w w' := by
  obtain ⟨m1, m2, m3, m4, m5, m6, m7, m8, m9, m10, m11⟩ := Mk.ok_true hm
  have HM := Lib.hid hm
  have HD := Lib.hid hd
  clear hm hd
  have HL := Lib.hid h.len
  have b0 := Lib.hid ((Below.refl w.heap.size w).alloc (Nat.le_refl _) (.cells #[.int .i64 m.C, .int .i64 m.D, .int .i64 m.S, .int .i64 m.M, .int .i64 m.L] 25))
  have hx := Lib.hid (Boxed.new w 25 m)
  go_enter Try.func99, Try.ntmps99
  go_wp2
  go_loopw [6, 16] (fun d i wr => ∃ k : Nat, k ≤ n ∧ i = .int .i64 k ∧ d = .int .i64 (m.C - n + kindsAt xs k) ∧ wr.rowIs (w.heap.size + 1) 100 8 (seenV xs k) ∧ Boxed wr w.heap.size 25 m ∧ Below w.heap.size w wr) (fun _ i _ => n - (intOf i).toNat)
  case atStart =>
    refine ⟨0, Nat.zero_le _, rfl, by simp [kindsAt], ⟨#[.bool false, .bool false, .bool false, .bool false, .bool false, .bool false, .bool false, .bool false], ?_, rfl, fun i hi => ?_⟩, hx.out.alloc _, b0.out.alloc (by simp) _⟩
    · have := heap_alloc_new (w.alloc (.cells #[.int .i64 m.C, .int .i64 m.D, .int .i64 m.S, .int .i64 m.M, .int .i64 m.L] 25)) (.cells #[.bool false, .bool false, .bool false, .bool false, .bool false, .bool false, .bool false, .bool false] 100)
      simpa using this
    match i, hi with
    | 0, _ => rfl
    | 1, _ => rfl
    | 2, _ => rfl
    | 3, _ => rfl
    | 4, _ => rfl
    | 5, _ => rfl
    | 6, _ => rfl
    | 7, _ => rfl
  case round =>
    obtain ⟨k, hk, rfl, rfl, hrow, hbox, hb⟩ := hrel
    have hr := kindsAt_le xs k
    obtain ⟨q0, q1, q2, q3, q4⟩ := hbox.cells
    by_cases hlt : k < n
    · obtain ⟨ad, v, rfl, hab, hv, hc⟩ := (h.below hb).at_ hlt
      obtain ⟨v0, v1⟩ := allIn_at HD.out hv
      have v2 : v < 8 := by omega
      have hcell := hrow.cell (show v.toNat < 8 by omega)
      have hfz := hrow.frozen v.toNat
      have HV := Lib.hid hv
      clear hv
      rcases hs : seenB xs k v with _ | _
      · have hcell' : wr.cell? ⟨w.heap.size + 1, v.toNat, none⟩ = some (.bool false) := by
          rw [hcell]; unfold seenV; rw [show ((v.toNat : Nat) : Int) = v by omega, hs]
        have HR := Lib.hid ((hrow.set v.toNat (.bool true)).congr (fun j _ => seen_set HV.out v0 j))
        have HX := Lib.hid (hbox.grown (grown_set (p := ⟨w.heap.size + 1, v.toNat, none⟩) (World.grownBy.refl wr _) rfl (.bool true)) (by simp))
        have HB := Lib.hid (hb.setCell (p := ⟨w.heap.size + 1, v.toNat, none⟩) (by simp) (.bool true))
        have HK := Lib.hid (kinds_new HV.out hs)
        clear hcell hrow hbox hs
        go_wp2
        go_roundw
        case rel => exact ⟨k + 1, by omega, by go_num, by rw [HK.out]; go_num, HR.out, HX.out, HB.out⟩
        case measure => simp [intOf]; omega
      · have hcell' : wr.cell? ⟨w.heap.size + 1, v.toNat, none⟩ = some (.bool true) := by
          rw [hcell]; unfold seenV; rw [show ((v.toNat : Nat) : Int) = v by omega, hs]
        have HR := Lib.hid (hrow.congr (fun j _ => seen_same HV.out hs j))
        have HX := Lib.hid hbox
        have HK := Lib.hid (kinds_old HV.out hs)
        clear hcell hrow hbox hs
        go_wp2
        go_roundw
        case rel => exact ⟨k + 1, by omega, by go_num, by rw [HK.out], HR.out, HX.out, hb⟩
        case measure => simp [intOf]; omega
    · have HK := Lib.hid (show k = n by omega)
      go_wp2
      go_ret
      exact ⟨ret_bool (by unfold kinds; rw [HL.out, HK.out]), hb⟩

end Go.Proofs.Ytlgaocjcfdfhmaa
