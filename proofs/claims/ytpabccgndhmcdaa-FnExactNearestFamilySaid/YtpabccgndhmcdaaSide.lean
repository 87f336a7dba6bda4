/- Side codes: words; the contracts of the tests on them and of the numbers of codes, of the program and of the model. -/
import Derived.Test.YtpabccgndhmcdaaDiff
import Derived.Test.YtpabccgndhmcdaaPow
import Derived.Test.YtpabccgndhmcdaaSetsC
namespace Go.Proofs.Ytpabccgndhmcdaa
open Go.RowKit

def sysB (s v : Int) : Bool := inB s 1 5 && inB v 2 5
def sideB (s v : Int) (xs : List Int) : Bool := decide ((xs.length : Int) = s) && allIn 0 (v - 1) xs
def sdB (s v d : Int) : Bool := sysB s v && inB d 1 s
theorem sys_no1 {s v : Int} (h : inB s 1 5 = false) : sysB s v = false := by simp [sysB, h]
theorem sys_yes1 {s v : Int} (h : inB s 1 5 = true) : sysB s v = inB v 2 5 := by simp [sysB, h]
theorem sys_true {s v : Int} (h : sysB s v = true) : 1 ≤ s ∧ s ≤ 5 ∧ 2 ≤ v ∧ v ≤ 5 := by
  unfold sysB at h
  simp only [Bool.and_eq_true, inB_true] at h
  omega
theorem sd_no1 {s v d : Int} (h : sysB s v = false) : sdB s v d = false := by simp [sdB, h]
theorem sd_yes1 {s v d : Int} (h : sysB s v = true) : sdB s v d = inB d 1 s := by simp [sdB, h]
theorem sd_true {s v d : Int} (h : sdB s v d = true) : sysB s v = true ∧ 1 ≤ d ∧ d ≤ s := by
  unfold sdB at h
  simp only [Bool.and_eq_true, inB_true] at h
  exact h
theorem side_len {s v : Int} {xs : List Int} {n : Nat} (hl : xs.length = n) (h : (n : Int) ≠ s) : sideB s v xs = false := by
  unfold sideB
  rw [hl, decide_eq_false h]; rfl
theorem side_all {s v : Int} {xs : List Int} {n : Nat} (hl : xs.length = n) (h : (n : Int) = s) : sideB s v xs = allIn 0 (v - 1) xs := by
  unfold sideB
  rw [hl, decide_eq_true h]; rfl
theorem side_no {s v : Int} {xs : List Int} (h : allIn 0 (v - 1) xs = false) : sideB s v xs = false := by unfold sideB; rw [h, Bool.and_false]
theorem side_true {s v : Int} {xs : List Int} (h : sideB s v xs = true) : (xs.length : Int) = s ∧ allIn 0 (v - 1) xs = true := by
  unfold sideB at h
  simpa using h
theorem below_box (w : World) (o : Obj) : Below w.heap.size w (w.alloc o) := (Below.refl _ _).alloc (Nat.le_refl _) o

theorem isValid_any (s v : Int) (w : World) :
    Calls Try.prog 66 #[.agg #[.int .i64 s, .int .i64 v]] w fun e w' => e = .returned (.bool (sysB s v)) ∧ Below w.heap.size w w' := by
  have b := below_box w (.cells #[.int .i64 s, .int .i64 v] 66)
  rcases h1 : inB s 1 5 with _ | _
  · rw [sys_no1 h1]
    go_enter Try.func66, Try.ntmps66
    go_wp2_with (go_at_call 62; refine (isWithin_any _ _ _ _).mono ?_; rintro e w' ⟨rfl, rfl⟩)
    go_ret
    exact ⟨rfl, b⟩
  · rw [sys_yes1 h1]
    go_enter Try.func66, Try.ntmps66
    go_wp2_with (go_at_call 62; refine (isWithin_any _ _ _ _).mono ?_; rintro e w' ⟨rfl, rfl⟩)
    go_ret
    exact ⟨rfl, b⟩

theorem hasDistance_any (s v d : Int) (w : World) :
    Calls Try.prog 51 #[.agg #[.int .i64 s, .int .i64 v], .int .i64 d] w fun e w' => e = .returned (.bool (sdB s v d)) ∧ Below w.heap.size w w' := by
  have b := below_box w (.cells #[.int .i64 s, .int .i64 v] 66)
  rcases h1 : sysB s v with _ | _
  · rw [sd_no1 h1]
    go_enter Try.func51, Try.ntmps51
    go_wp2_with fail
    refine (isValid_any s v _).mono ?_
    rw [h1]
    rintro e w1 ⟨rfl, b1⟩
    have b2 := below_trans' b b1
    clear b b1
    go_wp2
    go_ret
    exact ⟨rfl, b2⟩
  · rw [sd_yes1 h1]
    go_enter Try.func51, Try.ntmps51
    go_wp2_with fail
    refine (isValid_any s v _).mono ?_
    rw [h1]
    rintro e w1 ⟨rfl, b1⟩
    have c0 : w1.cell? ⟨w.heap.size, 0, none⟩ = some (.int .i64 s) := (b1.cell (by simp)).trans (by simp)
    have b2 := below_trans' b b1
    clear b b1
    go_wp2_with (go_at_call 62; refine (isWithin_any _ _ _ _).mono ?_; rintro e w' ⟨rfl, rfl⟩)
    go_ret
    exact ⟨rfl, b2⟩

theorem l07System_any (s v : Int) (w : World) :
    Calls Try.prog 67 #[.int .i64 s, .int .i64 v] w fun e w' => e = .returned (.bool (sysB s v)) ∧ w = w' := by
  rcases h1 : inB s 1 5 with _ | _
  · rw [sys_no1 h1]
    go_enter Try.func67, Try.ntmps67
    go_wp2_with (go_at_call 63; refine (l01In_any _ _ _ _).mono ?_; rintro e w' ⟨rfl, rfl⟩)
    go_ret
    exact ⟨rfl, rfl⟩
  · rw [sys_yes1 h1]
    go_enter Try.func67, Try.ntmps67
    go_wp2_with (go_at_call 63; refine (l01In_any _ _ _ _).mono ?_; rintro e w' ⟨rfl, rfl⟩)
    go_ret
    exact ⟨rfl, rfl⟩

theorem l07Distance_any (s v d : Int) (w : World) :
    Calls Try.prog 57 #[.int .i64 s, .int .i64 v, .int .i64 d] w fun e w' => e = .returned (.bool (sdB s v d)) ∧ w = w' := by
  rcases h1 : sysB s v with _ | _
  · rw [sd_no1 h1]
    go_enter Try.func57, Try.ntmps57
    go_wp2_with (go_at_call 67; refine (l07System_any _ _ _).mono ?_; rintro e w' ⟨rfl, rfl⟩)
    go_ret
    exact ⟨rfl, rfl⟩
  · rw [sd_yes1 h1]
    go_enter Try.func57, Try.ntmps57
    go_wp2_with (first | (go_at_call 67; refine (l07System_any _ _ _).mono ?_; rintro e w' ⟨rfl, rfl⟩) | (go_at_call 63; refine (l01In_any _ _ _ _).mono ?_; rintro e w' ⟨rfl, rfl⟩))
    go_ret
    exact ⟨rfl, rfl⟩

theorem l07Code_any (s v : Int) (A : Option Addr) (n c : Nat) (xs : List Int) (w : World) (h : Ints w w.heap.size A n xs) (hn : n ≤ 1048576) (hs : sysB s v = true) :
    Calls Try.prog 58 #[.int .i64 s, .int .i64 v, .slice A n c] w fun e w' => e = .returned (.bool (sideB s v xs)) ∧ w = w' := by
  have HL := Lib.hid h.len
  obtain ⟨s0, s1, v0, v1⟩ := sys_true hs
  clear hs
  go_enter Try.func58, Try.ntmps58
  go_wp2
  go_loop [7] (fun i => ∃ k : Nat, k ≤ n ∧ i = .int .i64 k ∧ Hid (allIn 0 (v - 1) (xs.take k) = true)) (fun i => n - (intOf i).toNat)
  case atStart => exact ⟨0, Nat.zero_le _, rfl, Lib.hid rfl⟩
  case round =>
    obtain ⟨k, hk, rfl, hall⟩ := hrel
    by_cases hlt : k < n
    · obtain ⟨ad, u, rfl, hab, hv, hc⟩ := h.at_ hlt
      have HV := Lib.hid hv
      clear hv
      rcases hq : inB u 0 (v - 1) with _ | _
      · go_wp2_with (go_at_call 63; refine (l01In_any _ _ _ _).mono ?_; rintro e w' ⟨rfl, rfl⟩)
        go_ret
        exact ⟨ret_bool (side_no (allIn_no HV.out hq)).symm, rfl⟩
      · go_wp2_with (go_at_call 63; refine (l01In_any _ _ _ _).mono ?_; rintro e w' ⟨rfl, rfl⟩)
        go_round
        case rel => exact ⟨k + 1, by omega, by go_num, Lib.hid (allIn_step HV.out hall.out hq)⟩
        case measure => simp [intOf]; omega
    · have HA : Hid (allIn 0 (v - 1) xs = true) := by rw [← take_end HL.out hlt]; exact hall
      clear hall
      by_cases hsn : (n : Int) = s
      · have HB := Lib.hid (side_all (v := v) HL.out hsn)
        have hb : ((n : Int) == s) = true := by simpa using hsn
        clear hsn
        go_wp2
        go_ret
        exact ⟨ret_bool (by rw [HB.out, HA.out]), rfl⟩
      · have HB := Lib.hid (side_len (v := v) HL.out hsn)
        have hb : ((n : Int) == s) = false := by simpa using hsn
        clear hsn
        go_wp2
        go_ret
        exact ⟨ret_bool (by rw [HB.out]), rfl⟩

theorem hasCodes_any (s v : Int) (V : Option Addr) (n c : Nat) (yss : List (List Int)) (w : World) (h : Sets w w.heap.size V n yss) (hn : n ≤ 1048576) (hs : sysB s v = true) :
    Calls Try.prog 52 #[.agg #[.int .i64 s, .int .i64 v], .slice V n c] w fun e w' => e = .returned (.bool (yss.all (sideB s v))) ∧ Below w.heap.size w w' := by
  have HL := Lib.hid h.len
  have b := below_box w (.cells #[.int .i64 s, .int .i64 v] 66)
  have HS := Lib.hid (h.on b)
  obtain ⟨s0, s1, v0, v1⟩ := sys_true hs
  clear hs h
  go_enter Try.func52, Try.ntmps52
  go_wp2
  go_loop [9] (fun i => ∃ k : Nat, k ≤ n ∧ i = .int .i64 k ∧ Hid (∀ j ys, j < k → yss[j]? = some ys → sideB s v ys = true)) (fun i => n - (intOf i).toNat)
  case atStart => exact ⟨0, Nat.zero_le _, rfl, Lib.hid (fun j _ hj => absurd hj (by omega))⟩
  case round =>
    obtain ⟨k, hk, rfl, hall⟩ := hrel
    by_cases hlt : k < n
    · obtain ⟨ad, ys, A, q, cc, rfl, _, hy, hc, hi, hqc, hcm⟩ := HS.out.at_ hlt
      have HY := Lib.hid hy
      have HQ := Lib.hid hi.len
      clear hy
      by_cases hsn : (q : Int) = s
      · have HB := Lib.hid (side_all (v := v) HQ.out hsn)
        have hb : ((q : Int) != s) = false := by simpa using hsn
        have hq5 : q ≤ 5 := by omega
        have HW := Lib.hid (withB_short (lo := 0) (hi := v - 1) HQ.out (by omega))
        clear hsn
        rcases hin : allIn 0 (v - 1) ys with _ | _
        · have HN : Hid (yss.all (sideB s v) = false) := Lib.hid (by
            rw [List.all_eq_false]
            exact ⟨ys, List.mem_of_getElem? HY.out, by rw [HB.out, hin]; simp⟩)
          go_wp2_with (go_at_call 71; refine (areWithin_any _ _ _ ys _ _ _ hi (by omega)).mono ?_; rw [HW.out, hin]; rintro e w' ⟨rfl, rfl⟩)
          go_ret
          exact ⟨ret_bool HN.out.symm, b⟩
        · have HK : Hid (sideB s v ys = true) := Lib.hid (by rw [HB.out, hin])
          go_wp2_with (go_at_call 71; refine (areWithin_any _ _ _ ys _ _ _ hi (by omega)).mono ?_; rw [HW.out, hin]; rintro e w' ⟨rfl, rfl⟩)
          go_round
          case rel => exact ⟨k + 1, by omega, by go_num, Lib.hid (fun j zs hj hz => by
            rcases Nat.lt_or_ge j k with h1 | h1
            · exact hall.out j zs h1 hz
            · obtain rfl : j = k := by omega
              rw [HY.out] at hz; cases hz; exact HK.out)⟩
          case measure => simp [intOf]; omega
      · have HB := Lib.hid (side_len (v := v) HQ.out hsn)
        have HN : Hid (yss.all (sideB s v) = false) := Lib.hid (by
          rw [List.all_eq_false]
          exact ⟨ys, List.mem_of_getElem? HY.out, by rw [HB.out]; simp⟩)
        have hb : ((q : Int) != s) = true := by simpa using hsn
        clear hsn
        go_wp2
        go_ret
        exact ⟨ret_bool HN.out.symm, b⟩
    · have HE : Hid (yss.all (sideB s v) = true) := Lib.hid (by
        rw [List.all_eq_true]
        intro ys hys
        obtain ⟨j, hj⟩ := List.getElem?_of_mem hys
        exact hall.out j ys (by have := (List.getElem?_eq_some_iff.1 hj).1; rw [HL.out] at this; omega) hj)
      go_wp2
      go_ret
      exact ⟨ret_bool HE.out.symm, b⟩

end Go.Proofs.Ytpabccgndhmcdaa
