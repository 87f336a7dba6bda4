/- Side codes: words; the contracts of the tests on them and of the numbers of codes, of the program and of the model. Side codes: IsSideCode, CountSideCodes, FamilyBound and SideDistance of the program and of the model: contracts. -/
import Derived.Test.YtpabccgndhmcdaaDiff
import Derived.Test.YtpabccgndhmcdaaPow
import Derived.Test.YtpabccgndhmcdaaSetsC
namespace Go.Proofs.Ytpabccgndhmcdaa
open Go.RowKit

def sysB (s v : Int) : Bool := inB s 1 5 && inB v 2 5
def sideB (s v : Int) (xs : List Int) : Bool := decide ((xs.length : Int) = s) && allIn 0 (v - 1) xs
def sdB (s v d : Int) : Bool := sysB s v && inB d 1 s
theorem sys_no1 {s v : Int} (h : inB s 1 5 = false) : sysB s v = false := by simp [sysB, h]
theorem sys_yes1 {s v : Int} (h : inB s 1 5 = true) : sysB s v = inB v 2 5 := by simp [sysB, h]
theorem sys_true {s v : Int} (h : sysB s v = true) : 1 ≤ s ∧ s ≤ 5 ∧ 2 ≤ v ∧ v ≤ 5 := by
  unfold sysB at h
  simp only [Bool.and_eq_true, inB_true] at h
  omega
theorem sd_no1 {s v d : Int} (h : sysB s v = false) : sdB s v d = false := by simp [sdB, h]
theorem sd_yes1 {s v d : Int} (h : sysB s v = true) : sdB s v d = inB d 1 s := by simp [sdB, h]
theorem sd_true {s v d : Int} (h : sdB s v d = true) : sysB s v = true ∧ 1 ≤ d ∧ d ≤ s := by
  unfold sdB at h
  simp only [Bool.and_eq_true, inB_true] at h
  exact h
theorem side_len {s v : Int} {xs : List Int} {n : Nat} (hl : xs.length = n) (h : (n : Int) ≠ s) : sideB s v xs = false := by
  unfold sideB
  rw [hl, decide_eq_false h]; rfl
theorem side_all {s v : Int} {xs : List Int} {n : Nat} (hl : xs.length = n) (h : (n : Int) = s) : sideB s v xs = allIn 0 (v - 1) xs := by
  unfold sideB
  rw [hl, decide_eq_true h]; rfl
theorem side_no {s v : Int} {xs : List Int} (h : allIn 0 (v - 1) xs = false) : sideB s v xs = false := by unfold sideB; rw [h, Bool.and_false]
theorem side_true {s v : Int} {xs : List Int} (h : sideB s v xs = true) : (xs.length : Int) = s ∧ allIn 0 (v - 1) xs = true := by
  unfold sideB at h
  simpa using h
theorem below_box (w : World) (o : Obj) : Below w.heap.size w (w.alloc o) := (Below.refl _ _).alloc (Nat.le_refl _) o

theorem isValid_any (s v : Int) (w : World) :
    Calls Try.prog 66 #[.agg #[.int .i64 s, .int .i64 v]] w fun e w' => e = .returned (.bool (sysB s v)) ∧ Below w.heap.size w w' := by
  have b := below_box w (.cells #[.int .i64 s, .int .i64 v] 66)
  rcases h1 : inB s 1 5 with _ | _
  · rw [sys_no1 h1]
    go_enter Try.func66, Try.ntmps66
    go_wp2_with (go_at_call 62; refine (isWithin_any _ _ _ _).mono ?_; rintro e w' ⟨rfl, rfl⟩)
    go_ret
    exact ⟨rfl, b⟩
  · rw [sys_yes1 h1]
    go_enter Try.func66, Try.ntmps66
    go_wp2_with (go_at_call 62; refine (isWithin_any _ _ _ _).mono ?_; rintro e w' ⟨rfl, rfl⟩)
    go_ret
    exact ⟨rfl, b⟩

theorem hasDistance_any (s v d : Int) (w : World) :
    Calls Try.prog 51 #[.agg #[.int .i64 s, .int .i64 v], .int .i64 d] w fun e w' => e = .returned (.bool (sdB s v d)) ∧ Below w.heap.size w w' := by
  have b := below_box w (.cells #[.int .i64 s, .int .i64 v] 66)
  rcases h1 : sysB s v with _ | _
  · rw [sd_no1 h1]
    go_enter Try.func51, Try.ntmps51
    go_wp2_with fail
    refine (isValid_any s v _).mono ?_
    rw [h1]
    rintro e w1 ⟨rfl, b1⟩
    have b2 := below_trans' b b1
    clear b b1
    go_wp2
    go_ret
    exact ⟨rfl, b2⟩
  · rw [sd_yes1 h1]
    go_enter Try.func51, Try.ntmps51
    go_wp2_with fail
    refine (isValid_any s v _).mono ?_
    rw [h1]
    rintro e w1 ⟨rfl, b1⟩
    have c0 : w1.cell? ⟨w.heap.size, 0, none⟩ = some (.int .i64 s) := (b1.cell (by simp)).trans (by simp)
    have b2 := below_trans' b b1
    clear b b1
    go_wp2_with (go_at_call 62; refine (isWithin_any _ _ _ _).mono ?_; rintro e w' ⟨rfl, rfl⟩)
    go_ret
    exact ⟨rfl, b2⟩

theorem l07System_any (s v : Int) (w : World) :
    Calls Try.prog 67 #[.int .i64 s, .int .i64 v] w fun e w' => e = .returned (.bool (sysB s v)) ∧ w = w' := by
  rcases h1 : inB s 1 5 with _ | _
  · rw [sys_no1 h1]
    go_enter Try.func67, Try.ntmps67
    go_wp2_with (go_at_call 63; refine (l01In_any _ _ _ _).mono ?_; rintro e w' ⟨rfl, rfl⟩)
    go_ret
    exact ⟨rfl, rfl⟩
  · rw [sys_yes1 h1]
    go_enter Try.func67, Try.ntmps67
    go_wp2_with (go_at_call 63; refine (l01In_any _ _ _ _).mono ?_; rintro e w' ⟨rfl, rfl⟩)
    go_ret
    exact ⟨rfl, rfl⟩

theorem l07Distance_any (s v d : Int) (w : World) :
    Calls Try.prog 57 #[.int .i64 s, .int .i64 v, .int .i64 d] w fun e w' => e = .returned (.bool (sdB s v d)) ∧ w = w' := by
  rcases h1 : sysB s v with _ | _
  · rw [sd_no1 h1]
    go_enter Try.func57, Try.ntmps57
    go_wp2_with (go_at_call 67; refine (l07System_any _ _ _).mono ?_; rintro e w' ⟨rfl, rfl⟩)
    go_ret
    exact ⟨rfl, rfl⟩
  · rw [sd_yes1 h1]
    go_enter Try.func57, Try.ntmps57
    go_wp2_with (first | (go_at_call 67; refine (l07System_any _ _ _).mono ?_; rintro e w' ⟨rfl, rfl⟩) | (go_at_call 63; refine (l01In_any _ _ _ _).mono ?_; rintro e w' ⟨rfl, rfl⟩))
    go_ret
    exact ⟨rfl, rfl⟩

theorem l07Code_any (s v : Int) (A : Option Addr) (n c : Nat) (xs : List Int) (w : World) (h : Ints w w.heap.size A n xs) (hn : n ≤ 1048576) (hs : sysB s v = true) :
    Calls Try.prog 58 #[.int .i64 s, .int .i64 v, .slice A n c] w fun e w' => e = .returned (.bool (sideB s v xs)) ∧ w = w' := by
  have HL := Lib.hid h.len
  obtain ⟨s0, s1, v0, v1⟩ := sys_true hs
  clear hs
  go_enter Try.func58, Try.ntmps58
  go_wp2
  go_loop [7] (fun i => ∃ k : Nat, k ≤ n ∧ i = .int .i64 k ∧ Hid (allIn 0 (v - 1) (xs.take k) = true)) (fun i => n - (intOf i).toNat)
  case atStart => exact ⟨0, Nat.zero_le _, rfl, Lib.hid rfl⟩
  case round =>
    obtain ⟨k, hk, rfl, hall⟩ := hrel
    by_cases hlt : k < n
    · obtain ⟨ad, u, rfl, hab, hv, hc⟩ := h.at_ hlt
      have HV := Lib.hid hv
      clear hv
      rcases hq : inB u 0 (v - 1) with _ | _
      · go_wp2_with (go_at_call 63; refine (l01In_any _ _ _ _).mono ?_; rintro e w' ⟨rfl, rfl⟩)
        go_ret
        exact ⟨ret_bool (side_no (allIn_no HV.out hq)).symm, rfl⟩
      · go_wp2_with (go_at_call 63; refine (l01In_any _ _ _ _).mono ?_; rintro e w' ⟨rfl, rfl⟩)
        go_round
        case rel => exact ⟨k + 1, by omega, by go_num, Lib.hid (allIn_step HV.out hall.out hq)⟩
        case measure => simp [intOf]; omega
    · have HA : Hid (allIn 0 (v - 1) xs = true) := by rw [← take_end HL.out hlt]; exact hall
      clear hall
      by_cases hsn : (n : Int) = s
      · have HB := Lib.hid (side_all (v := v) HL.out hsn)
        have hb : ((n : Int) == s) = true := by simpa using hsn
        clear hsn
        go_wp2
        go_ret
        exact ⟨ret_bool (by rw [HB.out, HA.out]), rfl⟩
      · have HB := Lib.hid (side_len (v := v) HL.out hsn)
        have hb : ((n : Int) == s) = false := by simpa using hsn
        clear hsn
        go_wp2
        go_ret
        exact ⟨ret_bool (by rw [HB.out]), rfl⟩

theorem hasCodes_any (s v : Int) (V : Option Addr) (n c : Nat) (yss : List (List Int)) (w : World) (h : Sets w w.heap.size V n yss) (hn : n ≤ 1048576) (hs : sysB s v = true) :
    Calls Try.prog 52 #[.agg #[.int .i64 s, .int .i64 v], .slice V n c] w fun e w' => e = .returned (.bool (yss.all (sideB s v))) ∧ Below w.heap.size w w' := by
  have HL := Lib.hid h.len
  have b := below_box w (.cells #[.int .i64 s, .int .i64 v] 66)
  have HS := Lib.hid (h.on b)
  obtain ⟨s0, s1, v0, v1⟩ := sys_true hs
  clear hs h
  go_enter Try.func52, Try.ntmps52
  go_wp2
  go_loop [9] (fun i => ∃ k : Nat, k ≤ n ∧ i = .int .i64 k ∧ Hid (∀ j ys, j < k → yss[j]? = some ys → sideB s v ys = true)) (fun i => n - (intOf i).toNat)
  case atStart => exact ⟨0, Nat.zero_le _, rfl, Lib.hid (fun j _ hj => absurd hj (by omega))⟩
  case round =>
    obtain ⟨k, hk, rfl, hall⟩ := hrel
    by_cases hlt : k < n
    · obtain ⟨ad, ys, A, q, cc, rfl, _, hy, hc, hi, hqc, hcm⟩ := HS.out.at_ hlt
      have HY := Lib.hid hy
      have HQ := Lib.hid hi.len
      clear hy
      by_cases hsn : (q : Int) = s
      · have HB := Lib.hid (side_all (v := v) HQ.out hsn)
        have hb : ((q : Int) != s) = false := by simpa using hsn
        have hq5 : q ≤ 5 := by omega
        have HW := Lib.hid (withB_short (lo := 0) (hi := v - 1) HQ.out (by omega))
        clear hsn
        rcases hin : allIn 0 (v - 1) ys with _ | _
        · have HN : Hid (yss.all (sideB s v) = false) := Lib.hid (by
            rw [List.all_eq_false]
            exact ⟨ys, List.mem_of_getElem? HY.out, by rw [HB.out, hin]; simp⟩)
          go_wp2_with (go_at_call 71; refine (areWithin_any _ _ _ ys _ _ _ hi (by omega)).mono ?_; rw [HW.out, hin]; rintro e w' ⟨rfl, rfl⟩)
          go_ret
          exact ⟨ret_bool HN.out.symm, b⟩
        · have HK : Hid (sideB s v ys = true) := Lib.hid (by rw [HB.out, hin])
          go_wp2_with (go_at_call 71; refine (areWithin_any _ _ _ ys _ _ _ hi (by omega)).mono ?_; rw [HW.out, hin]; rintro e w' ⟨rfl, rfl⟩)
          go_round
          case rel => exact ⟨k + 1, by omega, by go_num, Lib.hid (fun j zs hj hz => by
            rcases Nat.lt_or_ge j k with h1 | h1
            · exact hall.out j zs h1 hz
            · obtain rfl : j = k := by omega
              rw [HY.out] at hz; cases hz; exact HK.out)⟩
          case measure => simp [intOf]; omega
      · have HB := Lib.hid (side_len (v := v) HQ.out hsn)
        have HN : Hid (yss.all (sideB s v) = false) := Lib.hid (by
          rw [List.all_eq_false]
          exact ⟨ys, List.mem_of_getElem? HY.out, by rw [HB.out]; simp⟩)
        have hb : ((q : Int) != s) = true := by simpa using hsn
        clear hsn
        go_wp2
        go_ret
        exact ⟨ret_bool HN.out.symm, b⟩
    · have HE : Hid (yss.all (sideB s v) = true) := Lib.hid (by
        rw [List.all_eq_true]
        intro ys hys
        obtain ⟨j, hj⟩ := List.getElem?_of_mem hys
        exact hall.out j ys (by have := (List.getElem?_eq_some_iff.1 hj).1; rw [HL.out] at this; omega) hj)
      go_wp2
      go_ret
      exact ⟨ret_bool HE.out.symm, b⟩

end Go.Proofs.Ytpabccgndhmcdaa

namespace Go.Proofs.Ytpabccgndhmcdaa
open Go.RowKit

/-- powers of the numbers of positions -/
theorem pow_small {v : Int} {k : Nat} (h0 : 2 ≤ v) (h1 : v ≤ 5) (hk : k ≤ 5) : 1 ≤ powC v k ∧ powC v k ≤ 3125 := by
  have hv : v = 2 ∨ v = 3 ∨ v = 4 ∨ v = 5 := by omega
  have hk' : k = 0 ∨ k = 1 ∨ k = 2 ∨ k = 3 ∨ k = 4 ∨ k = 5 := by omega
  rcases hv with rfl | rfl | rfl | rfl <;> rcases hk' with rfl | rfl | rfl | rfl | rfl | rfl <;> decide
theorem pow_next {v : Int} {k : Nat} (h0 : 2 ≤ v) (h1 : v ≤ 5) (hk : k ≤ 5) : powC v (k + 1) = powC v k * v ∧ 0 ≤ powC v k * v ∧ powC v k * v ≤ 15625 := by
  have hv : v = 2 ∨ v = 3 ∨ v = 4 ∨ v = 5 := by omega
  have hk' : k = 0 ∨ k = 1 ∨ k = 2 ∨ k = 3 ∨ k = 4 ∨ k = 5 := by omega
  rcases hv with rfl | rfl | rfl | rfl <;> rcases hk' with rfl | rfl | rfl | rfl | rfl | rfl <;> decide
theorem pow_is {v x : Int} (h0 : 2 ≤ v) (h1 : v ≤ 5) (x0 : 0 ≤ x) (x1 : x ≤ 5) : powV v x = powC v x.toNat ∧ powE v x = 0 := by
  have hb : inB v 0 1000000000000 = true := inB_true.2 (by omega)
  have hx : inB x 0 60 = true := inB_true.2 (by omega)
  have hs := pow_small (k := x.toNat) h0 h1 (by omega)
  rw [(pow_yes hb hx).1, (pow_yes hb hx).2]
  unfold resV resC
  rw [if_neg (by omega), if_neg (by omega)]
  exact ⟨rfl, rfl⟩

theorem l07Power_any (v x : Int) (w : World) (h0 : 2 ≤ v) (h1 : v ≤ 5) (x0 : 0 ≤ x) (x1 : x ≤ 5) :
    Calls Try.prog 65 #[.int .i64 v, .int .i64 x] w fun e w' => e = .returned (.int .i64 (powC v x.toNat)) ∧ w = w' := by
  go_enter Try.func65, Try.ntmps65
  go_wp2
  go_loop [1, 5] (fun i p => ∃ k : Nat, (k : Int) ≤ x ∧ i = .int .i64 (x - k) ∧ p = .int .i64 (powC v k)) (fun i _ => (intOf i).toNat)
  case atStart => exact ⟨0, by omega, by go_num, rfl⟩
  case round =>
    obtain ⟨k, hk, rfl, rfl⟩ := hrel
    obtain ⟨e1, e2, e3⟩ := pow_next (k := k) h0 h1 (by omega)
    have HE := Lib.hid e1
    have HR := Lib.hid (pow_small (k := k) h0 h1 (by omega))
    have hr := HR.out
    clear e1
    by_cases hlt : (k : Int) < x
    · generalize hz : powC v k = z at e2 e3 hr HE ⊢
      have hw : wrap64 (z * v) = z * v := IntWalk.wrap64_in _ ⟨by omega, by omega⟩
      have HW := Lib.hid hw
      clear hz hw
      go_wp2
      go_round
      case rel => exact ⟨k + 1, by omega, by go_num, by rw [HE.out]⟩
      case measure => simp [intOf]; omega
    · have hkx : x.toNat = k := by omega
      have HK := Lib.hid hkx
      clear hkx
      go_wp2
      go_ret
      exact ⟨ret_int (by rw [HK.out]), rfl⟩

theorem count_any (s v : Int) (w : World) (hs : sysB s v = true) :
    Calls Try.prog 55 #[.agg #[.int .i64 s, .int .i64 v]] w fun e w' => e = .returned (.int .i64 (powC v s.toNat)) ∧ Below w.heap.size w w' := by
  have b := below_box w (.cells #[.int .i64 s, .int .i64 v] 66)
  obtain ⟨s0, s1, v0, v1⟩ := sys_true hs
  have HP := Lib.hid (pow_is v0 v1 (by omega : 0 ≤ s) s1)
  clear hs
  go_enter Try.func55, Try.ntmps55
  go_wp2_with (go_at_call 64; refine (powerOf_any _ _ _).mono ?_; rw [HP.out.1, HP.out.2]; rintro e w' ⟨rfl, rfl⟩)
  go_ret
  exact ⟨rfl, b⟩

def csV (s v : Int) : Int := if sysB s v then powC v s.toNat else 0
def csE (s v : Int) : Int := if sysB s v then 0 else 2
theorem cs_no {s v : Int} (h : sysB s v = false) : csV s v = 0 ∧ csE s v = 2 := by simp [csV, csE, h]
theorem cs_yes {s v : Int} (h : sysB s v = true) : csV s v = powC v s.toNat ∧ csE s v = 0 := by simp [csV, csE, h]

theorem cell_two (w : World) (a b : Value) (t : TypeId) : (w.alloc (.cells #[a, b] t)).cell? ⟨w.heap.size, 0, none⟩ = some a ∧ (w.alloc (.cells #[a, b] t)).cell? ⟨w.heap.size, 1, none⟩ = some b := by
  constructor <;> simp
theorem two_on {w w' : World} {g : Nat} {a b : Value} (h : w.cell? ⟨g, 0, none⟩ = some a ∧ w.cell? ⟨g, 1, none⟩ = some b) (hg : g < w.heap.size) (k : Below w.heap.size w w') : w'.cell? ⟨g, 0, none⟩ = some a ∧ w'.cell? ⟨g, 1, none⟩ = some b :=
  ⟨(k.cell hg).trans h.1, (k.cell hg).trans h.2⟩

theorem countSideCodes_any (s v : Int) (w : World) :
    Calls Try.prog 32 #[.int .i64 s, .int .i64 v] w fun e w' => e = .returned (.tuple #[.int .i64 (csV s v), .int .i64 (csE s v)]) ∧ Below w.heap.size w w' := by
  have b := below_box w (.cells #[.int .i64 s, .int .i64 v] 66)
  have c := cell_two w (.int .i64 s) (.int .i64 v) 66
  rcases hs : sysB s v with _ | _
  · rw [(cs_no hs).1, (cs_no hs).2]
    go_enter Try.func32, Try.ntmps32
    go_wp2_with fail
    refine (isValid_any s v _).mono ?_
    rw [hs]
    rintro e w1 ⟨rfl, b1⟩
    have b2 := below_trans' b b1
    clear b b1 c
    go_wp2
    go_ret2
    exact ⟨rfl, b2⟩
  · rw [(cs_yes hs).1, (cs_yes hs).2]
    have HS := Lib.hid hs
    clear hs
    go_enter Try.func32, Try.ntmps32
    go_wp2_with fail
    refine (isValid_any s v _).mono ?_
    rw [HS.out]
    rintro e w1 ⟨rfl, b1⟩
    obtain ⟨c0, c1⟩ := two_on c (by simp) b1
    have b2 := below_trans' b b1
    clear b b1 c
    go_wp2_with fail
    refine (count_any s v _ HS.out).mono ?_
    rintro e w2 ⟨rfl, b3⟩
    have b4 := below_trans' b2 b3
    clear b2 b3
    go_wp2
    go_ret2
    exact ⟨rfl, b4⟩

theorem specCountSideCodes_any (s v : Int) (w : World) :
    Calls Try.prog 33 #[.int .i64 s, .int .i64 v] w fun e w' => e = .returned (.tuple #[.int .i64 (csV s v), .int .i64 (csE s v)]) ∧ w = w' := by
  rcases hs : sysB s v with _ | _
  · rw [(cs_no hs).1, (cs_no hs).2]
    go_enter Try.func33, Try.ntmps33
    go_wp2_with (go_at_call 67; refine (l07System_any _ _ _).mono ?_; rintro e w' ⟨rfl, rfl⟩)
    go_ret2
    exact ⟨rfl, rfl⟩
  · rw [(cs_yes hs).1, (cs_yes hs).2]
    obtain ⟨s0, s1, v0, v1⟩ := sys_true hs
    go_enter Try.func33, Try.ntmps33
    go_wp2_with (first | (go_at_call 67; refine (l07System_any _ _ _).mono ?_; rintro e w' ⟨rfl, rfl⟩) | (go_at_call 65; refine (l07Power_any _ _ _ v0 v1 (by omega) s1).mono ?_; rintro e w' ⟨rfl, rfl⟩))
    go_ret2
    exact ⟨rfl, rfl⟩

def fbV (s v d : Int) : Int := if sdB s v d then powC v (s - d + 1).toNat else 0
def fbE (s v d : Int) : Int := if sdB s v d then 0 else 2
theorem fb_no {s v d : Int} (h : sdB s v d = false) : fbV s v d = 0 ∧ fbE s v d = 2 := by simp [fbV, fbE, h]
theorem fb_yes {s v d : Int} (h : sdB s v d = true) : fbV s v d = powC v (s - d + 1).toNat ∧ fbE s v d = 0 := by simp [fbV, fbE, h]

theorem familyBound_any (s v d : Int) (w : World) :
    Calls Try.prog 22 #[.int .i64 s, .int .i64 v, .int .i64 d] w fun e w' => e = .returned (.tuple #[.int .i64 (fbV s v d), .int .i64 (fbE s v d)]) ∧ Below w.heap.size w w' := by
  have b := below_box w (.cells #[.int .i64 s, .int .i64 v] 66)
  rcases hs : sdB s v d with _ | _
  · rw [(fb_no hs).1, (fb_no hs).2]
    go_enter Try.func22, Try.ntmps22
    go_wp2_with fail
    refine (hasDistance_any s v d _).mono ?_
    rw [hs]
    rintro e w1 ⟨rfl, b1⟩
    have b2 := below_trans' b b1
    clear b b1
    go_wp2
    go_ret2
    exact ⟨rfl, b2⟩
  · rw [(fb_yes hs).1, (fb_yes hs).2]
    obtain ⟨hy, d0, d1⟩ := sd_true hs
    obtain ⟨s0, s1, v0, v1⟩ := sys_true hy
    have HP := Lib.hid (pow_is v0 v1 (by omega : 0 ≤ s - d + 1) (by omega))
    have HS := Lib.hid hs
    clear hs hy
    go_enter Try.func22, Try.ntmps22
    go_wp2_with fail
    refine (hasDistance_any s v d _).mono ?_
    rw [HS.out]
    rintro e w1 ⟨rfl, b1⟩
    have b2 := below_trans' b b1
    clear b b1
    go_wp2_with (go_at_call 64; refine (powerOf_any _ _ _).mono ?_; rw [HP.out.1, HP.out.2]; rintro e w' ⟨rfl, rfl⟩)
    go_ret2
    exact ⟨rfl, b2⟩

theorem specFamilyBound_any (s v d : Int) (w : World) :
    Calls Try.prog 23 #[.int .i64 s, .int .i64 v, .int .i64 d] w fun e w' => e = .returned (.tuple #[.int .i64 (fbV s v d), .int .i64 (fbE s v d)]) ∧ w = w' := by
  rcases hs : sdB s v d with _ | _
  · rw [(fb_no hs).1, (fb_no hs).2]
    go_enter Try.func23, Try.ntmps23
    go_wp2_with (go_at_call 57; refine (l07Distance_any _ _ _ _).mono ?_; rintro e w' ⟨rfl, rfl⟩)
    go_ret2
    exact ⟨rfl, rfl⟩
  · rw [(fb_yes hs).1, (fb_yes hs).2]
    obtain ⟨hy, d0, d1⟩ := sd_true hs
    obtain ⟨s0, s1, v0, v1⟩ := sys_true hy
    go_enter Try.func23, Try.ntmps23
    go_wp2_with (first | (go_at_call 57; refine (l07Distance_any _ _ _ _).mono ?_; rintro e w' ⟨rfl, rfl⟩) | (go_at_call 65; refine (l07Power_any _ _ _ v0 v1 (by omega) (by omega)).mono ?_; rintro e w' ⟨rfl, rfl⟩))
    go_ret2
    exact ⟨rfl, rfl⟩

/-- lists in a new block of one or two -/
theorem Sets.one {w : World} {A : Option Addr} {q c : Nat} {xs : List Int} (t : TypeId) (h : Ints w w.heap.size A q xs) (hc : q ≤ c) (hcm : c ≤ 9223372036854775807) :
    Sets (w.alloc (.cells #[.slice A q c] t)) (w.alloc (.cells #[.slice A q c] t)).heap.size (some ⟨w.heap.size, 0, none⟩) 1 [xs] := by
  refine ⟨rfl, fun _ => ⟨_, rfl, by simp, fun j ys hj => ?_⟩⟩
  have hb := below_box w (.cells #[.slice A q c] t)
  rcases j with _ | j
  · obtain rfl : xs = ys := by simpa using hj
    exact ⟨A, q, c, by simp [Addr.add], h.on hb, hc, hcm⟩
  · simp at hj
theorem Sets.two {w : World} {A A' : Option Addr} {q c q' c' : Nat} {xs ys : List Int} (t : TypeId) (h : Ints w w.heap.size A q xs) (hc : q ≤ c) (hcm : c ≤ 9223372036854775807) (h' : Ints w w.heap.size A' q' ys) (hc' : q' ≤ c') (hcm' : c' ≤ 9223372036854775807) :
    Sets (w.alloc (.cells #[.slice A q c, .slice A' q' c'] t)) (w.alloc (.cells #[.slice A q c, .slice A' q' c'] t)).heap.size (some ⟨w.heap.size, 0, none⟩) 2 [xs, ys] := by
  refine ⟨rfl, fun _ => ⟨_, rfl, by simp, fun j zs hj => ?_⟩⟩
  have hb := below_box w (.cells #[.slice A q c, .slice A' q' c'] t)
  rcases j with _ | _ | j
  · obtain rfl : xs = zs := by simpa using hj
    exact ⟨A, q, c, by simp [Addr.add], h.on hb, hc, hcm⟩
  · obtain rfl : ys = zs := by simpa using hj
    exact ⟨A', q', c', by simp [Addr.add], h'.on hb, hc', hcm'⟩
  · simp at hj

def iscB (s v : Int) (xs : List Int) : Bool := sysB s v && sideB s v xs
theorem isc_no {s v : Int} {xs : List Int} (h : sysB s v = false) : iscB s v xs = false := by simp [iscB, h]
theorem isc_yes {s v : Int} {xs : List Int} (h : sysB s v = true) : iscB s v xs = [xs].all (sideB s v) := by simp [iscB, h]
theorem isc_yes' {s v : Int} {xs : List Int} (h : sysB s v = true) : iscB s v xs = sideB s v xs := by simp [iscB, h]

theorem isSideCode_any (s v : Int) (A : Option Addr) (n c : Nat) (xs : List Int) (w : World) (h : Ints w w.heap.size A n xs) (hc : n ≤ c) (hcm : c ≤ 9223372036854775807) :
    Calls Try.prog 28 #[.int .i64 s, .int .i64 v, .slice A n c] w fun e w' => e = .returned (.bool (iscB s v xs)) ∧ Below w.heap.size w w' := by
  have b := below_box w (.cells #[.int .i64 s, .int .i64 v] 66)
  have cc := cell_two w (.int .i64 s) (.int .i64 v) 66
  rcases hs : sysB s v with _ | _
  · rw [isc_no hs]
    go_enter Try.func28, Try.ntmps28
    go_wp2_with fail
    refine (isValid_any s v _).mono ?_
    rw [hs]
    rintro e w1 ⟨rfl, b1⟩
    have b2 := below_trans' b b1
    clear b b1 cc
    go_wp2
    go_ret
    exact ⟨rfl, b2⟩
  · rw [isc_yes hs]
    have HS := Lib.hid hs
    clear hs
    go_enter Try.func28, Try.ntmps28
    go_wp2_with fail
    refine (isValid_any s v _).mono ?_
    rw [HS.out]
    rintro e w1 ⟨rfl, b1⟩
    obtain ⟨c0, c1⟩ := two_on cc (by simp) b1
    have b2 := below_trans' b b1
    have S2 := Lib.hid (Sets.one (c := c) 24 (h.on b2) hc hcm)
    have B3 := Lib.hid (b2.alloc b2.size (.cells #[.slice A n c] 24))
    clear b b1 cc b2 h
    go_wp2_with fail
    refine (hasCodes_any s v _ 1 _ [xs] _ S2.out (by omega) HS.out).mono ?_
    rintro e w2 ⟨rfl, b3⟩
    have b4 := below_trans' B3.out b3
    clear b3 S2 B3
    go_wp2
    go_ret
    exact ⟨ret_bool (by simp), b4⟩

theorem specIsSideCode_any (s v : Int) (A : Option Addr) (n c : Nat) (xs : List Int) (w : World) (h : Ints w w.heap.size A n xs) (hn : n ≤ 1048576) :
    Calls Try.prog 37 #[.int .i64 s, .int .i64 v, .slice A n c] w fun e w' => e = .returned (.bool (iscB s v xs)) ∧ w = w' := by
  rcases hs : sysB s v with _ | _
  · rw [isc_no hs]
    go_enter Try.func37, Try.ntmps37
    go_wp2_with (go_at_call 67; refine (l07System_any _ _ _).mono ?_; rw [hs]; rintro e w' ⟨rfl, rfl⟩)
    go_ret
    exact ⟨rfl, rfl⟩
  · rw [isc_yes' hs]
    go_enter Try.func37, Try.ntmps37
    go_wp2_with (first | (go_at_call 67; refine (l07System_any _ _ _).mono ?_; rw [hs]; rintro e w' ⟨rfl, rfl⟩) | (go_at_call 58; refine (l07Code_any _ _ _ _ _ xs _ h hn hs).mono ?_; rintro e w' ⟨rfl, rfl⟩))
    go_ret
    exact ⟨rfl, rfl⟩

def twoB (s v : Int) (xs ys : List Int) : Bool := sideB s v xs && sideB s v ys
def sdV (s v : Int) (xs ys : List Int) : Int := if sysB s v && twoB s v xs ys then diffI xs ys else 0
def sdE (s v : Int) (xs ys : List Int) : Int := if sysB s v then (if twoB s v xs ys then 0 else 1) else 2
theorem sdi_no {s v : Int} {xs ys : List Int} (h : sysB s v = false) : sdV s v xs ys = 0 ∧ sdE s v xs ys = 2 := by simp [sdV, sdE, h]
theorem sdi_bad {s v : Int} {xs ys : List Int} (h : sysB s v = true) (h2 : twoB s v xs ys = false) : sdV s v xs ys = 0 ∧ sdE s v xs ys = 1 := by simp [sdV, sdE, h, h2]
theorem sdi_yes {s v : Int} {xs ys : List Int} (h : sysB s v = true) (h2 : twoB s v xs ys = true) : sdV s v xs ys = diffI xs ys ∧ sdE s v xs ys = 0 := by simp [sdV, sdE, h, h2]
theorem two_all (s v : Int) (xs ys : List Int) : [xs, ys].all (sideB s v) = twoB s v xs ys := by simp [twoB]
theorem twoB_len {s v : Int} {xs ys : List Int} (h : twoB s v xs ys = true) : xs.length = ys.length := by
  unfold twoB at h
  simp only [Bool.and_eq_true] at h
  have h1 := (side_true h.1).1
  have h2 := (side_true h.2).1
  omega

theorem sideDistance_any (s v : Int) (A A' : Option Addr) (n c n' c' : Nat) (xs ys : List Int) (w : World) (h : Ints w w.heap.size A n xs) (hn : n ≤ 1048576) (hc : n ≤ c) (hcm : c ≤ 9223372036854775807)
    (h' : Ints w w.heap.size A' n' ys) (hc' : n' ≤ c') (hcm' : c' ≤ 9223372036854775807) :
    Calls Try.prog 27 #[.int .i64 s, .int .i64 v, .slice A n c, .slice A' n' c'] w fun e w' => e = .returned (.tuple #[.int .i64 (sdV s v xs ys), .int .i64 (sdE s v xs ys)]) ∧ Below w.heap.size w w' := by
  have b := below_box w (.cells #[.int .i64 s, .int .i64 v] 66)
  have cc := cell_two w (.int .i64 s) (.int .i64 v) 66
  rcases hs : sysB s v with _ | _
  · rw [(sdi_no hs).1, (sdi_no hs).2]
    go_enter Try.func27, Try.ntmps27
    go_wp2_with fail
    refine (isValid_any s v _).mono ?_
    rw [hs]
    rintro e w1 ⟨rfl, b1⟩
    have b2 := below_trans' b b1
    clear b b1 cc
    go_wp2
    go_ret2
    exact ⟨rfl, b2⟩
  have HS := Lib.hid hs
  rcases ht : twoB s v xs ys with _ | _
  · rw [(sdi_bad hs ht).1, (sdi_bad hs ht).2]
    clear hs
    go_enter Try.func27, Try.ntmps27
    go_wp2_with fail
    refine (isValid_any s v _).mono ?_
    rw [HS.out]
    rintro e w1 ⟨rfl, b1⟩
    obtain ⟨c0, c1⟩ := two_on cc (by simp) b1
    have b2 := below_trans' b b1
    have S2 := Lib.hid (Sets.two (c := c) (c' := c') 24 (h.on b2) hc hcm (h'.on b2) hc' hcm')
    have B3 := Lib.hid (b2.alloc b2.size (.cells #[.slice A n c, .slice A' n' c'] 24))
    clear b b1 cc b2 h h'
    go_wp2_with fail
    refine (hasCodes_any s v _ 2 _ [xs, ys] _ S2.out (by omega) HS.out).mono ?_
    rw [two_all, ht]
    rintro e w2 ⟨rfl, b3⟩
    have b4 := below_trans' B3.out b3
    clear b3 S2 B3
    go_wp2
    go_ret2
    exact ⟨rfl, b4⟩
  · rw [(sdi_yes hs ht).1, (sdi_yes hs ht).2]
    have HT := Lib.hid ht
    obtain rfl : n = n' := by have := twoB_len ht; have h1 := h.len; have h2 := h'.len; omega
    clear hs ht
    go_enter Try.func27, Try.ntmps27
    go_wp2_with fail
    refine (isValid_any s v _).mono ?_
    rw [HS.out]
    rintro e w1 ⟨rfl, b1⟩
    obtain ⟨c0, c1⟩ := two_on cc (by simp) b1
    have b2 := below_trans' b b1
    have S2 := Lib.hid (Sets.two (c := c) (c' := c') 24 (h.on b2) hc hcm (h'.on b2) hc' hcm')
    have B3 := Lib.hid (b2.alloc b2.size (.cells #[.slice A n c, .slice A' n c'] 24))
    clear b b1 cc b2
    go_wp2_with fail
    refine (hasCodes_any s v _ 2 _ [xs, ys] _ S2.out (by omega) HS.out).mono ?_
    rw [two_all, HT.out]
    rintro e w2 ⟨rfl, b3⟩
    have b4 := below_trans' B3.out b3
    clear b3 S2 B3
    go_wp2_with fail
    refine (cutDifference_any _ _ _ _ _ xs ys _ (h.on b4) (h'.on b4) hn).mono ?_
    rintro e w3 ⟨rfl, q, rfl⟩
    go_wp2
    go_ret2
    exact ⟨rfl, below_drewN b4 q⟩

theorem specSideDistance_any (s v : Int) (A A' : Option Addr) (n c n' c' : Nat) (xs ys : List Int) (w : World) (h : Ints w w.heap.size A n xs) (hn : n ≤ 1048576) (h' : Ints w w.heap.size A' n' ys) (hn' : n' ≤ 1048576) :
    Calls Try.prog 30 #[.int .i64 s, .int .i64 v, .slice A n c, .slice A' n' c'] w fun e w' => e = .returned (.tuple #[.int .i64 (sdV s v xs ys), .int .i64 (sdE s v xs ys)]) ∧ ∃ q, w' = w.drewN q := by
  rcases hs : sysB s v with _ | _
  · rw [(sdi_no hs).1, (sdi_no hs).2]
    go_enter Try.func30, Try.ntmps30
    go_wp2_with (go_at_call 67; refine (l07System_any _ _ _).mono ?_; rw [hs]; rintro e w' ⟨rfl, rfl⟩)
    go_ret2
    exact ⟨rfl, 0, rfl⟩
  have HS := Lib.hid hs
  rcases h1 : sideB s v xs with _ | _
  · have ht : twoB s v xs ys = false := by simp [twoB, h1]
    rw [(sdi_bad hs ht).1, (sdi_bad hs ht).2]
    clear ht hs
    go_enter Try.func30, Try.ntmps30
    go_wp2_with (go_at_call 67; refine (l07System_any _ _ _).mono ?_; rw [HS.out]; rintro e w' ⟨rfl, rfl⟩)
    refine (l07Code_any _ _ _ _ _ xs _ h hn HS.out).mono ?_
    rw [h1]
    rintro e w' ⟨rfl, rfl⟩
    go_wp2
    go_ret2
    exact ⟨rfl, 0, rfl⟩
  rcases h2 : sideB s v ys with _ | _
  · have ht : twoB s v xs ys = false := by simp [twoB, h2]
    rw [(sdi_bad hs ht).1, (sdi_bad hs ht).2]
    clear ht hs
    go_enter Try.func30, Try.ntmps30
    go_wp2_with (go_at_call 67; refine (l07System_any _ _ _).mono ?_; rw [HS.out]; rintro e w' ⟨rfl, rfl⟩)
    refine (l07Code_any _ _ _ _ _ xs _ h hn HS.out).mono ?_
    rw [h1]
    rintro e w' ⟨rfl, rfl⟩
    go_wp2_with fail
    refine (l07Code_any _ _ _ _ _ ys _ h' hn' HS.out).mono ?_
    rw [h2]
    rintro e w' ⟨rfl, rfl⟩
    go_wp2
    go_ret2
    exact ⟨rfl, 0, rfl⟩
  have ht : twoB s v xs ys = true := by simp [twoB, h1, h2]
  rw [(sdi_yes hs ht).1, (sdi_yes hs ht).2]
  obtain rfl : n = n' := by have := twoB_len ht; have h1 := h.len; have h2 := h'.len; omega
  clear hs ht
  go_enter Try.func30, Try.ntmps30
  go_wp2_with (go_at_call 67; refine (l07System_any _ _ _).mono ?_; rw [HS.out]; rintro e w' ⟨rfl, rfl⟩)
  refine (l07Code_any _ _ _ _ _ xs _ h hn HS.out).mono ?_
  rw [h1]
  rintro e w' ⟨rfl, rfl⟩
  go_wp2_with fail
  refine (l07Code_any _ _ _ _ _ ys _ h' hn' HS.out).mono ?_
  rw [h2]
  rintro e w' ⟨rfl, rfl⟩
  go_wp2_with fail
  refine (l03Difference_any _ _ _ _ _ xs ys _ h h' hn).mono ?_
  rintro e w3 ⟨rfl, q, rfl⟩
  go_wp2
  go_ret2
  exact ⟨rfl, q, rfl⟩

end Go.Proofs.Ytpabccgndhmcdaa
