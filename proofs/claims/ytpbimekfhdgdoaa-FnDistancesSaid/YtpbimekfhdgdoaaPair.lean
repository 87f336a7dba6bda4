/- DifferenceOf and DistanceOf, of the program and of the model. -/
import Derived.Test.YtpbimekfhdgdoaaCode
namespace Go.Proofs.Ytpbimekfhdgdoaa
open Go.RowKit

def dfV (m : Mk) (xs ys : List Int) : Int := if codeF m [xs, ys] = 0 then diffI xs ys else 0
def dsV (m : Mk) (xs ys : List Int) : Int := if codeF m [xs, ys] = 0 then distI xs ys else 0
theorem df_yes {m : Mk} {xs ys : List Int} (h : codeF m [xs, ys] = 0) : dfV m xs ys = diffI xs ys := by unfold dfV; rw [if_pos h]
theorem df_no {m : Mk} {xs ys : List Int} (h : codeF m [xs, ys] ≠ 0) : dfV m xs ys = 0 := by unfold dfV; rw [if_neg h]
theorem ds_yes {m : Mk} {xs ys : List Int} (h : codeF m [xs, ys] = 0) : dsV m xs ys = distI xs ys := by unfold dsV; rw [if_pos h]
theorem ds_no {m : Mk} {xs ys : List Int} (h : codeF m [xs, ys] ≠ 0) : dsV m xs ys = 0 := by unfold dsV; rw [if_neg h]
theorem two_keys {m : Mk} {xs ys : List Int} (h : codeF m [xs, ys] = 0) : m.ok = true ∧ isKeyB m xs = true ∧ isKeyB m ys = true := by
  obtain ⟨h1, h2⟩ := code_zero.1 h
  simp at h2
  exact ⟨h1, h2.1, h2.2⟩
theorem key_seven {m : Mk} {xs : List Int} (h : isKeyB m xs = true) : allIn 0 7 xs = true := by
  obtain ⟨hm, _, h3, _⟩ := key_facts h
  obtain ⟨m1, m2, m3, m4, _⟩ := Mk.ok_true hm
  unfold allIn at *
  rw [List.all_eq_true] at *
  intro v hv
  have := inB_true.1 (h3 v hv)
  exact inB_true.2 (by omega)
theorem two_len {m : Mk} {xs ys : List Int} (h : codeF m [xs, ys] = 0) : (xs.length : Int) = m.C ∧ (ys.length : Int) = m.C ∧ xs.length = ys.length ∧ allIn 0 7 xs = true ∧ allIn 0 7 ys = true := by
  obtain ⟨_, h1, h2⟩ := two_keys h
  obtain ⟨_, l1, _⟩ := key_facts h1
  obtain ⟨_, l2, _⟩ := key_facts h2
  exact ⟨l1, l2, by omega, key_seven h1, key_seven h2⟩
theorem drew_below {w w1 w2 : World} {q : Nat} (h : Below w.heap.size w w1) (e : w2 = w1.drewN q) : Below w.heap.size w w2 := by subst e; exact below_drewN h q

set_option maxHeartbeats 1000000 in
theorem differenceOf_any (m : Mk) (A A' : Option Addr) (n c n' c' : Nat) (xs ys : List Int) (w : World) (h : Ints w w.heap.size A n xs) (hn : n ≤ 1048576) (h' : Ints w w.heap.size A' n' ys) (hn' : n' ≤ 1048576) :
    Calls Try.prog 6 #[.agg #[.int .i64 m.C, .int .i64 m.D, .int .i64 m.S, .int .i64 m.M, .int .i64 m.L], .slice A n c, .slice A' n' c'] w
      fun e w' => e = .returned (.tuple #[.int .i64 (dfV m xs ys), .int .i64 (codeF m [xs, ys])]) ∧ Below w.heap.size w w' := by
  have b0 := (Below.refl w.heap.size w).alloc (Nat.le_refl _) (.cells #[.int .i64 m.C, .int .i64 m.D, .int .i64 m.S, .int .i64 m.M, .int .i64 m.L] 25)
  have c0 := b0.alloc (by simp) (.cells #[.slice A n c, .slice A' n' c'] 26)
  have hl := Lists.two (c := c) (c' := c') 26 (h.on b0) hn (h'.on b0) hn'
  rw [World.size_alloc] at hl
  have HLE := Lib.hid (And.intro h.len h'.len)
  by_cases hz : codeF m [xs, ys] = 0
  · obtain ⟨_, _, l3, _, _⟩ := two_len hz
    rw [df_yes hz, hz]
    have HZ := Lib.hid hz
    obtain rfl : n = n' := by have := HLE.out; omega
    clear hz l3
    go_enter Try.func6, Try.ntmps6
    go_wp2_with fail
    refine (codeFor_any m _ 2 _ [xs, ys] _ hl (by omega)).mono ?_
    rw [HZ.out]
    rintro e w1 ⟨rfl, b1⟩
    have c1 := below_trans' c0 b1
    clear hl b0 c0 b1
    go_wp2_with fail
    refine (cutDifference_any _ _ _ _ _ xs ys _ (h.on c1) (h'.on c1) hn).mono ?_
    rintro e w2 ⟨rfl, q, rfl⟩
    go_wp2
    go_ret2
    exact ⟨rfl, below_drewN c1 q⟩
  · rw [df_no hz]
    obtain ⟨v, hv⟩ : ∃ v, codeF m [xs, ys] = v := ⟨_, rfl⟩
    rw [hv] at hz ⊢
    have HV := Lib.hid hv
    have hq : (v != 0) = true := by simpa using hz
    clear hz hv
    go_enter Try.func6, Try.ntmps6
    go_wp2_with fail
    refine (codeFor_any m _ 2 _ [xs, ys] _ hl (by omega)).mono ?_
    rw [HV.out]
    rintro e w1 ⟨rfl, b1⟩
    have c1 := below_trans' c0 b1
    clear hl b0 c0 b1
    go_wp2
    go_ret2
    exact ⟨rfl, c1⟩

set_option maxHeartbeats 1000000 in
theorem specDifferenceOf_any (m : Mk) (A A' : Option Addr) (n c n' c' : Nat) (xs ys : List Int) (w : World) (h : Ints w w.heap.size A n xs) (hn : n ≤ 1048576) (hc : n ≤ c) (hcm : c ≤ 9223372036854775807)
    (h' : Ints w w.heap.size A' n' ys) (hn' : n' ≤ 1048576) (hc' : n' ≤ c') (hcm' : c' ≤ 9223372036854775807) :
    Calls Try.prog 7 #[.agg #[.int .i64 m.C, .int .i64 m.D, .int .i64 m.S, .int .i64 m.M, .int .i64 m.L], .slice A n c, .slice A' n' c'] w
      fun e w' => e = .returned (.tuple #[.int .i64 (dfV m xs ys), .int .i64 (codeF m [xs, ys])]) ∧ Below w.heap.size w w' := by
  have b0 := (Below.refl w.heap.size w).alloc (Nat.le_refl _) (.cells #[.int .i64 m.C, .int .i64 m.D, .int .i64 m.S, .int .i64 m.M, .int .i64 m.L] 25)
  have HLE := Lib.hid (And.intro h.len h'.len)
  by_cases hz : codeF m [xs, ys] = 0
  · obtain ⟨_, _, l3, _, _⟩ := two_len hz
    rw [df_yes hz, hz]
    have HZ := Lib.hid hz
    obtain rfl : n = n' := by have := HLE.out; omega
    clear hz l3
    go_enter Try.func7, Try.ntmps7
    go_wp2_with fail
    refine (l03Two_any m _ _ _ _ _ _ xs ys _ (h.on b0) hn hc hcm (h'.on b0) hn' hc' hcm').mono ?_
    rw [HZ.out]
    rintro e w1 ⟨rfl, b1⟩
    have c1 := below_trans' b0 b1
    clear b0 b1
    go_wp2_with fail
    refine (l03Difference_any _ _ _ _ _ xs ys _ (h.on c1) (h'.on c1) hn).mono ?_
    rintro e w2 ⟨rfl, q, rfl⟩
    go_wp2
    go_ret2
    exact ⟨rfl, below_drewN c1 q⟩
  · rw [df_no hz]
    obtain ⟨v, hv⟩ : ∃ v, codeF m [xs, ys] = v := ⟨_, rfl⟩
    rw [hv] at hz ⊢
    have HV := Lib.hid hv
    have hq : (v != 0) = true := by simpa using hz
    clear hz hv
    go_enter Try.func7, Try.ntmps7
    go_wp2_with fail
    refine (l03Two_any m _ _ _ _ _ _ xs ys _ (h.on b0) hn hc hcm (h'.on b0) hn' hc' hcm').mono ?_
    rw [HV.out]
    rintro e w1 ⟨rfl, b1⟩
    have c1 := below_trans' b0 b1
    clear b0 b1
    go_wp2
    go_ret2
    exact ⟨rfl, c1⟩

set_option maxHeartbeats 1000000 in
theorem distanceOf_any (m : Mk) (A A' : Option Addr) (n c n' c' : Nat) (xs ys : List Int) (w : World) (h : Ints w w.heap.size A n xs) (hn : n ≤ 1048576) (h' : Ints w w.heap.size A' n' ys) (hn' : n' ≤ 1048576) :
    Calls Try.prog 8 #[.agg #[.int .i64 m.C, .int .i64 m.D, .int .i64 m.S, .int .i64 m.M, .int .i64 m.L], .slice A n c, .slice A' n' c'] w
      fun e w' => e = .returned (.tuple #[.int .i64 (dsV m xs ys), .int .i64 (codeF m [xs, ys])]) ∧ Below w.heap.size w w' := by
  have b0 := (Below.refl w.heap.size w).alloc (Nat.le_refl _) (.cells #[.int .i64 m.C, .int .i64 m.D, .int .i64 m.S, .int .i64 m.M, .int .i64 m.L] 25)
  have c0 := b0.alloc (by simp) (.cells #[.slice A n c, .slice A' n' c'] 26)
  have hl := Lists.two (c := c) (c' := c') 26 (h.on b0) hn (h'.on b0) hn'
  rw [World.size_alloc] at hl
  have HLE := Lib.hid (And.intro h.len h'.len)
  by_cases hz : codeF m [xs, ys] = 0
  · obtain ⟨_, _, l3, s1, s2⟩ := two_len hz
    rw [ds_yes hz, hz]
    have HZ := Lib.hid hz
    have HS := Lib.hid (And.intro s1 s2)
    obtain rfl : n = n' := by have := HLE.out; omega
    clear hz l3 s1 s2
    go_enter Try.func8, Try.ntmps8
    go_wp2_with fail
    refine (codeFor_any m _ 2 _ [xs, ys] _ hl (by omega)).mono ?_
    rw [HZ.out]
    rintro e w1 ⟨rfl, b1⟩
    have c1 := below_trans' c0 b1
    clear hl b0 c0 b1
    go_wp2_with fail
    refine (cutDistance_any _ _ _ _ _ xs ys _ (h.on c1) (h'.on c1) hn HS.out.1 HS.out.2).mono ?_
    rintro e w2 ⟨rfl, q, rfl⟩
    go_wp2
    go_ret2
    exact ⟨rfl, below_drewN c1 q⟩
  · rw [ds_no hz]
    obtain ⟨v, hv⟩ : ∃ v, codeF m [xs, ys] = v := ⟨_, rfl⟩
    rw [hv] at hz ⊢
    have HV := Lib.hid hv
    have hq : (v != 0) = true := by simpa using hz
    clear hz hv
    go_enter Try.func8, Try.ntmps8
    go_wp2_with fail
    refine (codeFor_any m _ 2 _ [xs, ys] _ hl (by omega)).mono ?_
    rw [HV.out]
    rintro e w1 ⟨rfl, b1⟩
    have c1 := below_trans' c0 b1
    clear hl b0 c0 b1
    go_wp2
    go_ret2
    exact ⟨rfl, c1⟩

set_option maxHeartbeats 1000000 in
theorem specDistanceOf_any (m : Mk) (A A' : Option Addr) (n c n' c' : Nat) (xs ys : List Int) (w : World) (h : Ints w w.heap.size A n xs) (hn : n ≤ 1048576) (hc : n ≤ c) (hcm : c ≤ 9223372036854775807)
    (h' : Ints w w.heap.size A' n' ys) (hn' : n' ≤ 1048576) (hc' : n' ≤ c') (hcm' : c' ≤ 9223372036854775807) :
    Calls Try.prog 9 #[.agg #[.int .i64 m.C, .int .i64 m.D, .int .i64 m.S, .int .i64 m.M, .int .i64 m.L], .slice A n c, .slice A' n' c'] w
      fun e w' => e = .returned (.tuple #[.int .i64 (dsV m xs ys), .int .i64 (codeF m [xs, ys])]) ∧ Below w.heap.size w w' := by
  have b0 := (Below.refl w.heap.size w).alloc (Nat.le_refl _) (.cells #[.int .i64 m.C, .int .i64 m.D, .int .i64 m.S, .int .i64 m.M, .int .i64 m.L] 25)
  have HLE := Lib.hid (And.intro h.len h'.len)
  by_cases hz : codeF m [xs, ys] = 0
  · obtain ⟨_, _, l3, s1, s2⟩ := two_len hz
    rw [ds_yes hz, hz]
    have HZ := Lib.hid hz
    have HS := Lib.hid (And.intro s1 s2)
    obtain rfl : n = n' := by have := HLE.out; omega
    clear hz l3 s1 s2
    go_enter Try.func9, Try.ntmps9
    go_wp2_with fail
    refine (l03Two_any m _ _ _ _ _ _ xs ys _ (h.on b0) hn hc hcm (h'.on b0) hn' hc' hcm').mono ?_
    rw [HZ.out]
    rintro e w1 ⟨rfl, b1⟩
    have c1 := below_trans' b0 b1
    clear b0 b1
    go_wp2_with fail
    refine (l03Distance_any _ _ _ _ _ xs ys _ (h.on c1) (h'.on c1) hn HS.out.1 HS.out.2).mono ?_
    rintro e w2 ⟨rfl, q, rfl⟩
    go_wp2
    go_ret2
    exact ⟨rfl, below_drewN c1 q⟩
  · rw [ds_no hz]
    obtain ⟨v, hv⟩ : ∃ v, codeF m [xs, ys] = v := ⟨_, rfl⟩
    rw [hv] at hz ⊢
    have HV := Lib.hid hv
    have hq : (v != 0) = true := by simpa using hz
    clear hz hv
    go_enter Try.func9, Try.ntmps9
    go_wp2_with fail
    refine (l03Two_any m _ _ _ _ _ _ xs ys _ (h.on b0) hn hc hcm (h'.on b0) hn' hc' hcm').mono ?_
    rw [HV.out]
    rintro e w1 ⟨rfl, b1⟩
    have c1 := below_trans' b0 b1
    clear b0 b1
    go_wp2
    go_ret2
    exact ⟨rfl, c1⟩

end Go.Proofs.Ytpbimekfhdgdoaa
