/- IsLock of the program and of the model; a lock as bits; the counts of its sets; whether a key opens it. -/
import Derived.Test.YtbfnffecmglgfaaLockW
import Derived.Test.YtbfnffecmglgfaaWalk
import Derived.Test.YtbfnffecmglgfaaPair
namespace Go.Proofs.Ytbfnffecmglgfaa
open Go Go.RowKit

/-- the facts of the first k sets -/
def SetsOk (m : Mk) (yss : List (List Int)) (k : Nat) : Prop := ∀ j s, j < k → yss[j]? = some s → s.length ≠ 0 ∧ riseB m.D s = true
theorem SetsOk.next {m : Mk} {yss : List (List Int)} {k : Nat} {s : List Int} (h : SetsOk m yss k) (hs : yss[k]? = some s) (h1 : s.length ≠ 0) (h2 : riseB m.D s = true) : SetsOk m yss (k + 1) := by
  intro j t hj ht
  rcases Nat.lt_or_ge j k with h3 | h3
  · exact h j t h3 ht
  · obtain rfl : j = k := by omega
    rw [hs] at ht; injection ht with ht; subst ht; exact ⟨h1, h2⟩
theorem lockB_bad {m : Mk} {yss : List (List Int)} (h : m.ok = false) : lockB m yss = false := by simp [lockB, h]
theorem lockB_long {m : Mk} {yss : List (List Int)} (h : ¬ (yss.length : Int) = m.C) : lockB m yss = false := by simp [lockB, h]
theorem SetsOk.all {m : Mk} {yss : List (List Int)} {n : Nat} (h : SetsOk m yss n) (hl : yss.length = n) (hm : m.ok = true) (hC : (n : Int) = m.C) : lockB m yss = true :=
  lockB_yes hm (by omega) (fun i s hs => h i s (by have := (List.getElem?_eq_some_iff.1 hs).1; omega) hs)

set_option maxRecDepth 100000 in
set_option maxHeartbeats 2000000 in
theorem isLock_any (m : Mk) (V : Option Addr) (n c : Nat) (yss : List (List Int)) (w : World) (h : Sets w w.heap.size V n yss) (hn : n + sizeL yss ≤ 1048576) :
    Calls Try.prog 24 #[.agg #[.int .i64 m.C, .int .i64 m.D, .int .i64 m.S, .int .i64 m.M, .int .i64 m.L], .agg #[.slice V n c]] w fun e w' => e = .returned (.bool (lockB m yss)) ∧ Below w.heap.size w w' := by
  have c0 := ((Below.refl w.heap.size w).alloc (Nat.le_refl _) (.cells #[.int .i64 m.C, .int .i64 m.D, .int .i64 m.S, .int .i64 m.M, .int .i64 m.L] 25)).alloc (by simp) (.cells #[.slice V n c] 30)
  have hx := (Boxed.new w 25 m).alloc (.cells #[.slice V n c] 30)
  have k0 := Cell1.new (w.alloc (.cells #[.int .i64 m.C, .int .i64 m.D, .int .i64 m.S, .int .i64 m.M, .int .i64 m.L] 25)) 30 (.slice V n c)
  rw [World.size_alloc] at k0
  have hs := h.on c0
  have HL := Lib.hid h.len
  have HN := Lib.hid hn
  have hn1 : n ≤ 1048576 := by omega
  clear h hn
  obtain ⟨q0, q1, q2, q3, q4⟩ := hx.cells
  rcases hm : m.ok with _ | _
  · rw [lockB_bad hm]
    go_enter Try.func24, Try.ntmps24
    go_wp2_with fail
    refine (isMaker_any m _).mono ?_
    rw [hm]
    rintro e w1 ⟨rfl, b1⟩
    have c1 := below_trans' c0 b1
    go_wp2
    go_ret
    exact ⟨rfl, c1⟩
  have HM := Lib.hid hm
  clear hm
  by_cases hC : (n : Int) = m.C
  · go_enter Try.func24, Try.ntmps24
    go_wp2_with fail
    refine (isMaker_any m _).mono ?_
    rw [HM.out]
    rintro e w1 ⟨rfl, b1⟩
    have c1 := below_trans' c0 b1
    have x1 := hx.on b1
    have k1 := k0.on b1
    have s1 := hs.on b1
    have ck := k1.cell
    have htest : ((n : Int) != m.C) = false := by simpa using hC
    clear q0 q1 q2 q3 q4 c0 hx k0 hs b1
    obtain ⟨q0, q1, q2, q3, q4⟩ := x1.cells
    go_wp2
    clear q0 q1 q2 q3 q4
    go_loopw [21] (fun i wr => ∃ k : Nat, k ≤ n ∧ i = .int .i64 k ∧ Hid (SetsOk m yss k) ∧ Boxed wr w.heap.size 25 m ∧ Sets wr wr.heap.size V n yss ∧ Below w.heap.size w wr) (fun i _ => n - (intOf i).toNat)
    case atStart => exact ⟨0, Nat.zero_le _, rfl, Lib.hid (fun j s hj => absurd hj (by omega)), x1, s1, c1⟩
    case round =>
      obtain ⟨k, hk, rfl, hall, hbox, hsets, hb⟩ := hrel
      clear x1 s1 c1 k1 ck
      by_cases hlt : k < n
      · obtain ⟨ad, ys, A, q, cc, rfl, hab, hy, hc, hi, hq, hqm⟩ := hsets.at_ hlt
        have HY := Lib.hid hy
        have hql : q ≤ 1048576 := by have := fits_at HN.out hy; have := hi.len; omega
        have HI := Lib.hid hi
        obtain ⟨q0, q1, q2, q3, q4⟩ := hbox.cells
        clear hy hi
        by_cases hq0 : q = 0
        · subst hq0
          have HE := Lib.hid (lockB_no (m := m) HY.out (.inl HI.out.len))
          go_wp2
          go_ret
          exact ⟨ret_bool HE.out.symm, hb⟩
        have hqt : ((q : Int) == 0) = false := by simp; omega
        go_wp2_with fail
        refine (isRising_any _ _ _ ys m.D _ HI.out hql).mono ?_
        rcases hr : riseB m.D ys with _ | _
        · rintro e w' ⟨rfl, rfl⟩
          have HE := Lib.hid (lockB_no (m := m) HY.out (.inr hr))
          go_wp2
          go_ret
          exact ⟨ret_bool HE.out.symm, hb⟩
        · rintro e w' ⟨rfl, rfl⟩
          have HA := Lib.hid (hall.out.next HY.out (by rw [HI.out.len]; exact hq0) hr)
          clear hr q0 q1 q2 q3 q4 hc
          go_wp2
          go_roundw
          case rel => exact ⟨k + 1, by omega, by go_num, HA, hbox, hsets, hb⟩
          case measure => simp [intOf]; omega
      · have HE := Lib.hid (hall.out.all (n := k) (by rw [HL.out]; omega) HM.out (by omega))
        go_wp2
        go_ret
        exact ⟨ret_bool HE.out.symm, hb⟩
  · have HE := Lib.hid (lockB_long (m := m) (yss := yss) (by rw [HL.out]; exact hC))
    rw [HE.out]
    go_enter Try.func24, Try.ntmps24
    go_wp2_with fail
    refine (isMaker_any m _).mono ?_
    rw [HM.out]
    rintro e w1 ⟨rfl, b1⟩
    have c1 := below_trans' c0 b1
    have x1 := hx.on b1
    have ck := (k0.on b1).cell
    have htest : ((n : Int) != m.C) = true := by simpa using hC
    clear q0 q1 q2 q3 q4 c0 hx k0 hs b1
    obtain ⟨q0, q1, q2, q3, q4⟩ := x1.cells
    go_wp2
    go_ret
    exact ⟨rfl, c1⟩

set_option maxHeartbeats 2000000 in
theorem l01Rises_quiet (A : Option Addr) (n c : Nat) (xs : List Int) (m : Int) (w : World) (b : Bool) (h : Ints w w.heap.size A n xs) (hn : n ≤ 1048576) (hb : riseB m xs = b) :
    Calls Try.prog 102 #[.slice A n c, .int .i64 m] w fun e w' => e = .returned (.bool b) ∧ ∃ q, w' = w.drewN q := by
  subst hb
  have HL := Lib.hid h.len
  go_enter Try.func102, Try.ntmps102
  go_wp2
  go_loopw [5] (fun i wr => ∃ k q : Nat, k ≤ n ∧ i = .int .i64 k ∧ Hid (∀ j, j < k → stepB m xs j = true) ∧ wr = w.drewN q) (fun i _ => n - (intOf i).toNat)
  case atStart => exact ⟨0, 0, Nat.zero_le _, rfl, Lib.hid (fun j hj => absurd hj (by omega)), rfl⟩
  case round =>
    obtain ⟨k, q, hk, rfl, hall, rfl⟩ := hrel
    by_cases hlt : k < n
    · obtain ⟨ad, v, rfl, hab, hv, hc⟩ := h.at_ hlt
      have HV := Lib.hid hv
      clear hv
      by_cases h1 : v < 0
      · have d1 : decide (v < 0) = true := by simpa using h1
        go_wp2
        go_quiet (fail)
        go_wp2
        go_ret
        exact ⟨ret_bool (riseB_no HL.out hlt (step_neg HV.out h1)).symm, _, World.drewN_drewN _ _ _⟩
      have d1 : decide (v < 0) = false := by simpa using h1
      by_cases h2 : v < m
      · have d2 : decide (m ≤ v) = false := by simpa using h2
        by_cases h3 : 0 < k
        · have d3 : decide (0 < k) = true := by simpa using h3
          obtain ⟨ad', u, e, _, hu, hc'⟩ := h.at_ (show k - 1 < n by omega)
          obtain rfl : ad = ad' := by injection e
          clear e
          have HU := Lib.hid hu
          clear hu
          have s1 : IntKind.i64.wrap ((k : Int) - 1) = (k : Int) - 1 := IntWalk.i64_in _ (by omega)
          have s2 : 0 ≤ (k : Int) - 1 := by omega
          have s3 : ((k : Int) - 1).toNat = k - 1 := by omega
          have s4 : (k : Int) - 1 < (n : Int) := by omega
          by_cases h4 : v ≤ u
          · have d4 : decide (v ≤ u) = true := by simpa using h4
            go_wp2
            go_quiet (fail)
            go_wp2
            go_ret
            exact ⟨ret_bool (riseB_no HL.out hlt (step_low HV.out HU.out h3 h4)).symm, _, World.drewN_drewN _ _ _⟩
          · have d4 : decide (v ≤ u) = false := by simpa using h4
            go_wp2
            go_quiet (fail)
            go_wp2
            go_roundw
            case rel => clear s1 s2 s3 s4; exact ⟨k + 1, _, by omega, by go_num, Lib.hid (step_next hall.out (step_up HV.out HU.out (by omega) h2 (by omega))), rfl⟩
            case measure => simp [intOf]; omega
        · have d3 : decide (0 < k) = false := by simpa using h3
          go_wp2
          go_quiet (fail)
          go_wp2
          go_roundw
          case rel => exact ⟨k + 1, _, by omega, by go_num, Lib.hid (step_next hall.out (step_first HV.out (by omega) h2 h3)), rfl⟩
          case measure => simp [intOf]; omega
      · have d2 : decide (m ≤ v) = true := by simpa using h2
        go_wp2
        go_quiet (fail)
        go_wp2
        go_ret
        exact ⟨ret_bool (riseB_no HL.out hlt (step_big HV.out (by omega))).symm, _, World.drewN_drewN _ _ _⟩
    · go_wp2
      go_ret
      exact ⟨ret_bool (riseB_yes HL.out hlt hall.out).symm, _, rfl⟩

set_option maxRecDepth 100000 in
set_option maxHeartbeats 4000000 in
theorem specIsLock_any (m : Mk) (V : Option Addr) (n c : Nat) (yss : List (List Int)) (w : World) (h : Sets w w.heap.size V n yss) (hn : n + sizeL yss ≤ 1048576) :
    Calls Try.prog 25 #[.agg #[.int .i64 m.C, .int .i64 m.D, .int .i64 m.S, .int .i64 m.M, .int .i64 m.L], .agg #[.slice V n c]] w fun e w' => e = .returned (.bool (lockB m yss)) ∧ Below w.heap.size w w' := by
  have c0 := ((Below.refl w.heap.size w).alloc (Nat.le_refl _) (.cells #[.int .i64 m.C, .int .i64 m.D, .int .i64 m.S, .int .i64 m.M, .int .i64 m.L] 25)).alloc (by simp) (.cells #[.slice V n c] 30)
  have hx := (Boxed.new w 25 m).alloc (.cells #[.slice V n c] 30)
  have k0 := Cell1.new (w.alloc (.cells #[.int .i64 m.C, .int .i64 m.D, .int .i64 m.S, .int .i64 m.M, .int .i64 m.L] 25)) 30 (.slice V n c)
  rw [World.size_alloc] at k0
  have hs := h.on c0
  have HL := Lib.hid h.len
  have HN := Lib.hid hn
  have hn1 : n ≤ 1048576 := by omega
  clear h hn
  obtain ⟨q0, q1, q2, q3, q4⟩ := hx.cells
  rcases hm : m.ok with _ | _
  · rw [lockB_bad hm]
    go_enter Try.func25, Try.ntmps25
    go_wp2_with fail
    refine (specIsMaker_any m _).mono ?_
    rw [hm]
    rintro e w1 ⟨rfl, b1⟩
    have c1 := below_trans' c0 b1
    go_wp2
    go_ret
    exact ⟨rfl, c1⟩
  have HM := Lib.hid hm
  clear hm
  by_cases hC : (n : Int) = m.C
  · go_enter Try.func25, Try.ntmps25
    go_wp2_with fail
    refine (specIsMaker_any m _).mono ?_
    rw [HM.out]
    rintro e w1 ⟨rfl, b1⟩
    have c1 := below_trans' c0 b1
    have x1 := hx.on b1
    have k1 := k0.on b1
    have s1 := hs.on b1
    have ck := k1.cell
    have htest : ((n : Int) != m.C) = false := by simpa using hC
    clear q0 q1 q2 q3 q4 c0 hx k0 hs b1
    obtain ⟨q0, q1, q2, q3, q4⟩ := x1.cells
    go_wp2
    clear q0 q1 q2 q3 q4
    go_loopw [5] (fun i wr => ∃ k : Nat, k ≤ n ∧ i = .int .i64 k ∧ Hid (SetsOk m yss k) ∧ Boxed wr w.heap.size 25 m ∧ Cell1 wr (w.heap.size + 1) 30 (.slice V n c) ∧ Sets wr wr.heap.size V n yss ∧ Below w.heap.size w wr) (fun i _ => n - (intOf i).toNat)
    case atStart => exact ⟨0, Nat.zero_le _, rfl, Lib.hid (fun j s hj => absurd hj (by omega)), x1, k1, s1, c1⟩
    case round =>
      obtain ⟨k, hk, rfl, hall, hbox, hcell, hsets, hb⟩ := hrel
      clear x1 s1 c1 k1 ck
      have ck := hcell.cell
      by_cases hlt : k < n
      · obtain ⟨ad, ys, A, q, cc, rfl, hab, hy, hc, hi, hq, hqm⟩ := hsets.at_ hlt
        have HY := Lib.hid hy
        have hql : q ≤ 1048576 := by have := fits_at HN.out hy; have := hi.len; omega
        have HI := Lib.hid hi
        obtain ⟨q0, q1, q2, q3, q4⟩ := hbox.cells
        have i0 : (0 : Int) ≤ (k : Int) := by omega
        have i1 : (k : Int) < (n : Int) := by omega
        clear hy hi
        by_cases hq0 : q = 0
        · subst hq0
          have HE := Lib.hid (lockB_no (m := m) HY.out (.inl HI.out.len))
          go_wp2
          go_quiet (fail)
          go_wp2
          go_ret
          exact ⟨ret_bool HE.out.symm, below_drewN hb _⟩
        have hqt : ((q : Int) == 0) = false := by simp; omega
        rcases hr : riseB m.D ys with _ | _
        · have HE := Lib.hid (lockB_no (m := m) HY.out (.inr hr))
          go_wp2
          go_quiet ((go_at_call 102; exact quiet_on (l01Rises_quiet _ _ _ ys m.D _ _ (ints_drewN HI.out _) hql hr)))
          go_wp2
          go_ret
          exact ⟨ret_bool HE.out.symm, below_drewN hb _⟩
        · have HA := Lib.hid (hall.out.next HY.out (by rw [HI.out.len]; exact hq0) hr)
          go_wp2
          go_quiet ((go_at_call 102; exact quiet_on (l01Rises_quiet _ _ _ ys m.D _ _ (ints_drewN HI.out _) hql hr)))
          clear hr q0 q1 q2 q3 q4 hc ck
          go_wp2
          go_roundw
          case rel => exact ⟨k + 1, by omega, by go_num, HA, hbox.drewN _, hcell, hsets.drewN _, below_drewN hb _⟩
          case measure => simp [intOf]; omega
      · have HE := Lib.hid (hall.out.all (n := k) (by rw [HL.out]; omega) HM.out (by omega))
        go_wp2
        go_ret
        exact ⟨ret_bool HE.out.symm, hb⟩
  · have HE := Lib.hid (lockB_long (m := m) (yss := yss) (by rw [HL.out]; exact hC))
    rw [HE.out]
    go_enter Try.func25, Try.ntmps25
    go_wp2_with fail
    refine (specIsMaker_any m _).mono ?_
    rw [HM.out]
    rintro e w1 ⟨rfl, b1⟩
    have c1 := below_trans' c0 b1
    have x1 := hx.on b1
    have ck := (k0.on b1).cell
    have htest : ((n : Int) != m.C) = true := by simpa using hC
    clear q0 q1 q2 q3 q4 c0 hx k0 hs b1
    obtain ⟨q0, q1, q2, q3, q4⟩ := x1.cells
    go_wp2
    go_ret
    exact ⟨rfl, c1⟩

/-! a lock as bits -/
/-- the numbers of a lock -/
def bitsOf (yss : List (List Int)) (i : Nat) : Nat := maskOf (yss.getD i [])
/-- .. where the first k sets have come, and j depths of the next one -/
def bitsAt (yss : List (List Int)) (k j : Nat) (i : Nat) : Nat := if i < k then maskOf (yss.getD i []) else if i = k then maskOf ((yss.getD k []).take j) else 0
theorem bitsAt_zero (yss : List (List Int)) : bitsAt yss 0 0 = fun _ => 0 := by
  funext i
  unfold bitsAt
  rw [if_neg (by omega)]
  split <;> simp [maskOf]
theorem bitsAt_next {yss : List (List Int)} {k j d : Nat} {ys : List Int} (hy : yss[k]? = some ys) (hj : ys[j]? = some (d : Int)) : bitAdd (bitsAt yss k j) k d = bitsAt yss k (j + 1) := by
  funext i
  unfold bitAdd bitsAt
  rw [getD_list hy]
  by_cases h : i = k
  · subst h
    rw [if_pos rfl, if_neg (by omega), if_pos rfl, if_neg (by omega), if_pos rfl]
    obtain ⟨hl, e⟩ := List.getElem?_eq_some_iff.1 hj
    rw [List.take_succ_eq_append_getElem hl, e, mask_snoc]
  · rw [if_neg h, if_neg h, if_neg h]
theorem bitsAt_row {yss : List (List Int)} {k j : Nat} {ys : List Int} (hy : yss[k]? = some ys) (hj : ys.length ≤ j) : bitsAt yss k j = bitsAt yss (k + 1) 0 := by
  funext i
  unfold bitsAt
  by_cases h : i = k
  · subst h
    rw [if_neg (by omega), if_pos rfl, if_pos (by omega), getD_list hy, List.take_of_length_le hj]
  · by_cases h2 : i < k
    · rw [if_pos h2, if_pos (by omega)]
    · rw [if_neg h2, if_neg h, if_neg (by omega)]
      split <;> simp [maskOf]
theorem bitsAt_end {yss : List (List Int)} {n : Nat} (h : yss.length = n) : bitsAt yss n 0 = bitsOf yss := by
  funext i
  unfold bitsAt bitsOf
  by_cases h2 : i < n
  · rw [if_pos h2]
  · have e : yss.getD i [] = [] := by rw [List.getD_eq_getElem?_getD, List.getElem?_eq_none (by omega)]; rfl
    rw [if_neg h2, e]
    split
    · next h3 => subst h3; rw [e]; rfl
    · rfl
theorem rise_seven {D : Int} {ys : List Int} (h : riseB D ys = true) (hD : D ≤ 8) : allIn 0 7 ys = true := by
  unfold allIn
  rw [List.all_eq_true]
  intro v hv
  have := (rise_facts h).1 v hv
  exact inB_true.2 (by omega)
theorem take_seven {ys : List Int} (h : allIn 0 7 ys = true) (j : Nat) : allIn 0 7 (ys.take j) = true := by
  unfold allIn at *
  rw [List.all_eq_true] at *
  exact fun v hv => h v (List.mem_of_mem_take hv)
theorem lock_seven {m : Mk} {yss : List (List Int)} (h : lockB m yss = true) (k : Nat) : allIn 0 7 (yss.getD k []) = true := by
  obtain ⟨h1, _, h3⟩ := lockB_facts h
  obtain ⟨_, _, _, m4, _⟩ := Mk.ok_true h1
  rcases hk : yss[k]? with _ | ys
  · rw [List.getD_eq_getElem?_getD, hk]; rfl
  · rw [getD_list hk]; exact rise_seven (h3 k ys hk).2 m4
theorem bitsAt_lt {m : Mk} {yss : List (List Int)} (h : lockB m yss = true) (k j : Nat) : ∀ i, bitsAt yss k j i < 256 := by
  intro i
  unfold bitsAt
  split
  · exact mask_lt (lock_seven h i)
  · split
    · exact mask_lt (take_seven (lock_seven h k) j)
    · omega
theorem bitsOf_lt {m : Mk} {yss : List (List Int)} (h : lockB m yss = true) : ∀ i, bitsOf yss i < 256 := fun i => mask_lt (lock_seven h i)
theorem bitsOf_set {m : Mk} {yss : List (List Int)} (h : lockB m yss = true) (i d : Nat) : bitP (bitsOf yss) i d = setP yss i d := by
  unfold bitP bitsOf setP
  exact mask_bit d (nonneg_of (lock_seven h i))

set_option maxRecDepth 100000 in
set_option maxHeartbeats 4000000 in
theorem inBits_any (m : Mk) (V : Option Addr) (n c : Nat) (yss : List (List Int)) (w : World) (h : Sets w w.heap.size V n yss) (hL : lockB m yss = true) (vs : Nat → Nat) (hvs : bitsOf yss = vs) :
    Calls Try.prog 104 #[.agg #[.slice V n c], .agg #[.int .i64 m.C, .int .i64 m.D, .int .i64 m.S, .int .i64 m.M, .int .i64 m.L]] w fun e w' => e = .returned (.agg #[.int .i64 m.C, .int .i64 m.D, .int .i64 m.S, .int .i64 m.M, .int .i64 m.L, .int .u8 (vs 0 : Nat), .int .u8 (vs 1 : Nat), .int .u8 (vs 2 : Nat), .int .u8 (vs 3 : Nat), .int .u8 (vs 4 : Nat), .int .u8 (vs 5 : Nat)]) ∧ Below w.heap.size w w' := by
  have HLK := Lib.hid hL
  obtain ⟨hm, hC, hall⟩ := lockB_facts hL
  obtain ⟨m1, m2, m3, m4, m5, m6, m7, m8, m9, m10, m11⟩ := Mk.ok_true hm
  have HA := Lib.hid hall
  have HVS := Lib.hid hvs
  have HL := Lib.hid h.len
  have hn6 : n ≤ 6 := by have := h.len; omega
  have HS := Lib.hid h
  clear hL hm hall hvs h
  go_enter Try.func104, Try.ntmps104
  go_wp2
  go_loopw [15] (fun x wr => ∃ (k : Nat), x = .int .i64 k ∧ k ≤ n ∧ Hid (BitBox wr (w.heap.size + 3) 106 m (bitsAt yss k 0)) ∧ Hid (BitBox wr (w.heap.size + 2) 106 ⟨0, 0, 0, 0, 0⟩ (fun _ => 0)) ∧ Below w.heap.size w wr) (fun x _ => n - (intOf x).toNat)
  case atStart =>
    refine ⟨0, rfl, Nat.zero_le _, Lib.hid ?_, Lib.hid ?_, ((((Below.refl w.heap.size w).alloc (Nat.le_refl _) _).alloc (by simp) _).alloc (by simp; omega) _).alloc (by simp; omega) _⟩
    · rw [bitsAt_zero]
      exact BitBox.zero _ _ m (by simp)
    · exact BitBox.alloc (BitBox.zero _ _ ⟨0, 0, 0, 0, 0⟩ (by simp)) _
  case round =>
    obtain ⟨k, rfl, hk, hbit, hres, hb⟩ := hrel
    by_cases hlt : k < n
    · obtain ⟨ad, ys, A, q, cc, rfl, hab, hy, hc0, hi, hq, hqm⟩ := HS.out.at_ hlt
      have hc := (hb.cell (p := ad.add k) (by rw [block_of_add]; exact hab)).trans hc0
      obtain ⟨_, hrise⟩ := HA.out k ys hy
      have HR := Lib.hid hrise
      have HY := Lib.hid hy
      have i0 : (0 : Int) ≤ (k : Int) := by omega
      have i6 : (k : Int) < 6 := by omega
      have HYI := Lib.hid hi
      clear hy hrise hi hc0
      go_wp2
      go_loopw [22] (fun x wr' => ∃ (j : Nat), x = .int .i64 j ∧ j ≤ q ∧ Hid (BitBox wr' (w.heap.size + 3) 106 m (bitsAt yss k j)) ∧ Hid (BitBox wr' (w.heap.size + 2) 106 ⟨0, 0, 0, 0, 0⟩ (fun _ => 0)) ∧ Below w.heap.size w wr') (fun x _ => q - (intOf x).toNat)
      case atStart => exact ⟨0, rfl, Nat.zero_le _, hbit, hres, hb⟩
      case round =>
        clear hb hbit hres hc
        obtain ⟨j, rfl, hj, hbit, hres, hb⟩ := hrel
        by_cases hltj : j < q
        · obtain ⟨ad', v, rfl, hab', hv, hc⟩ := (HYI.out.below hb).at_ hltj
          obtain ⟨v0, v1⟩ := (rise_facts HR.out).1 v (List.mem_of_getElem? hv)
          obtain ⟨d, rfl⟩ : ∃ d : Nat, v = (d : Int) := ⟨v.toNat, by omega⟩
          have HV := Lib.hid (bitsAt_next HY.out hv)
          have hst := hbit.out.bit (show k < 6 by omega)
          have hfz := hbit.out.thawed (5 + k)
          have hsz := hbit.out.lt
          have HB := Lib.hid hb
          clear hv hb
          go_wp2_with fail
          refine (add_any ⟨w.heap.size + 3, 5 + k, none⟩ (bitsAt yss k j k) d _ (bitsAt_lt HLK.out k j k) (by omega) hst hfz).mono ?_
          rintro e w' ⟨rfl, r, rfl⟩
          have P2 := Lib.hid ((hbit.out.put (d := d) (show k < 6 by omega)).drewN r)
          rw [HV.out] at P2
          have R2 := Lib.hid ((hres.out.grown (grown_set (p := ⟨w.heap.size + 3, 5 + k, none⟩) (World.grownBy.refl wr (some (w.heap.size + 3))) rfl (.int .u8 ((nxtU (bitsAt yss k j k) d : Nat) : Int))) (by intro e; injection e with e; omega)).drewN r)
          have B2 := Lib.hid (below_drewN (HB.out.setCell (p := ⟨w.heap.size + 3, 5 + k, none⟩) (by simp) (.int .u8 ((nxtU (bitsAt yss k j k) d : Nat) : Int))) r)
          clear hst hfz hsz hc
          go_wp2
          go_roundw
          case rel => exact ⟨j + 1, by go_num, by omega, P2, R2, B2.out⟩
          case measure => simp [intOf]; omega
        · have HE := Lib.hid (bitsAt_row (j := j) HY.out (by rw [HYI.out.len]; omega))
          rw [HE.out] at hbit
          go_wp2
          go_roundw
          case rel => exact ⟨k + 1, by go_num, by omega, hbit, hres, hb⟩
          case measure => simp [intOf]; omega
    · have HE : Hid (bitsAt yss k 0 = vs) := Lib.hid (by rw [bitsAt_end (by rw [HL.out]; omega), HVS.out])
      rw [HE.out] at hbit
      obtain ⟨c0, c1, c2, c3, c4, c5, c6, c7, c8, c9, c10⟩ := hbit.out.cells
      obtain ⟨d0, d1, d2, d3, d4, d5, d6, d7, d8, d9, d10⟩ := hres.out.cells
      obtain ⟨f0, f1, f2, f3, f4, f5, f6, f7, f8, f9, f10⟩ := hres.out.thaws
      rw [show w.heap.size + 3 = w.heap.size + 1 + 1 + 1 from rfl] at c0 c1 c2 c3 c4 c5 c6 c7 c8 c9 c10
      rw [show w.heap.size + 2 = w.heap.size + 1 + 1 from rfl] at d0 d1 d2 d3 d4 d5 d6 d7 d8 d9 d10 f0 f1 f2 f3 f4 f5 f6 f7 f8 f9 f10
      go_wp2
      obtain ⟨r0, r1, r2, r3, r4, r5, r6, r7, r8, r9, r10⟩ := (hres.out.put11 (m := m) (vs := vs)).cells
      rw [show w.heap.size + 2 = w.heap.size + 1 + 1 from rfl] at r0 r1 r2 r3 r4 r5 r6 r7 r8 r9 r10
      unfold put11 at r0 r1 r2 r3 r4 r5 r6 r7 r8 r9 r10
      refine bodyPost_ret (v := .agg #[.int .i64 m.C, .int .i64 m.D, .int .i64 m.S, .int .i64 m.M, .int .i64 m.L, .int .u8 (vs 0 : Nat), .int .u8 (vs 1 : Nat), .int .u8 (vs 2 : Nat), .int .u8 (vs 3 : Nat), .int .u8 (vs 4 : Nat), .int .u8 (vs 5 : Nat)]) (by simp [results, Try.results104, go_sem, r0, r1, r2, r3, r4, r5, r6, r7, r8, r9, r10]) rfl ⟨rfl, ?_⟩
      exact below_put11 hb (by omega) m vs

/-- what a test of each chamber has found -/
theorem frees_no {p : Nat → Nat → Bool} {xs : List Int} {k d : Nat} (hv : xs[k]? = some (d : Int)) (h : p k d = false) : frees p 0 xs = false := by
  unfold frees
  rw [List.all_eq_false]
  refine ⟨k, List.mem_range.2 (List.getElem?_eq_some_iff.1 hv).1, ?_⟩
  rw [getD_at hv]
  simp [h]
theorem frees_yes {p : Nat → Nat → Bool} {xs : List Int} {k : Nat} (hk : xs.length ≤ k) (h : ∀ j, j < k → ∀ d : Nat, xs[j]? = some (d : Int) → p j d = true) (h0 : ∀ v ∈ xs, 0 ≤ v) : frees p 0 xs = true := by
  unfold frees
  rw [List.all_eq_true]
  intro j hj
  have hj' := List.mem_range.1 hj
  have hv : xs[j]? = some xs[j] := List.getElem?_eq_getElem hj'
  have hn := h0 _ (List.mem_of_getElem? hv)
  rw [h j (by omega) (xs.getD j 0).toNat (by rw [getD_at hv, hv]; congr 1; omega)]
  simp

set_option maxRecDepth 100000 in
set_option maxHeartbeats 2000000 in
theorem isOpened_any (m : Mk) (vs : Nat → Nat) (hv : ∀ i, vs i < 256) (A : Option Addr) (n c : Nat) (xs : List Int) (w : World) (h : Ints w w.heap.size A n xs) (hn : n ≤ 6) (hd : allIn 0 7 xs = true) :
    Calls Try.prog 105 #[.agg #[.int .i64 m.C, .int .i64 m.D, .int .i64 m.S, .int .i64 m.M, .int .i64 m.L, .int .u8 (vs 0 : Nat), .int .u8 (vs 1 : Nat), .int .u8 (vs 2 : Nat), .int .u8 (vs 3 : Nat), .int .u8 (vs 4 : Nat), .int .u8 (vs 5 : Nat)], .slice A n c] w fun e w' => e = .returned (.bool (frees (bitP vs) 0 xs)) ∧ Below w.heap.size w w' := by
  have c0 := (Below.refl w.heap.size w).alloc (Nat.le_refl _) (.cells #[.int .i64 m.C, .int .i64 m.D, .int .i64 m.S, .int .i64 m.M, .int .i64 m.L, .int .u8 (vs 0 : Nat), .int .u8 (vs 1 : Nat), .int .u8 (vs 2 : Nat), .int .u8 (vs 3 : Nat), .int .u8 (vs 4 : Nat), .int .u8 (vs 5 : Nat)] 106)
  have hx := BitBox.new w 106 m vs
  have hi := h.on c0
  have HL := Lib.hid h.len
  have HD := Lib.hid hd
  have HV := Lib.hid hv
  clear h hd hv
  go_enter Try.func105, Try.ntmps105
  go_wp2
  go_loop [9] (fun x => ∃ k : Nat, x = .int .i64 k ∧ k ≤ n ∧ Hid (∀ j, j < k → ∀ d : Nat, xs[j]? = some (d : Int) → bitP vs j d = true)) (fun x => n - (intOf x).toNat)
  case atStart => exact ⟨0, rfl, Nat.zero_le _, Lib.hid (fun j hj => absurd hj (by omega))⟩
  case round =>
    obtain ⟨k, rfl, hk, hall⟩ := hrel
    by_cases hlt : k < n
    · obtain ⟨ad, v, rfl, hab, hv, hc⟩ := hi.at_ hlt
      obtain ⟨v0, v1⟩ := allIn_at HD.out hv
      obtain ⟨d, rfl⟩ : ∃ d : Nat, v = (d : Int) := ⟨v.toNat, by omega⟩
      have HVK := Lib.hid hv
      have i0 : (0 : Int) ≤ (k : Int) := by omega
      have i6 : (k : Int) < 6 := by omega
      have hst := hx.bit (show k < 6 by omega)
      clear hv
      go_wp2_with fail
      refine (has_any (vs k) d _ (HV.out k) (by omega)).mono ?_
      rcases hh : (vs k).testBit d with _ | _
      · rintro e w' ⟨rfl, rfl⟩
        have HE := Lib.hid (frees_no (p := bitP vs) HVK.out hh)
        go_wp2
        go_ret
        exact ⟨ret_bool HE.out.symm, c0⟩
      · rintro e w' ⟨rfl, rfl⟩
        have HA : Hid (∀ j, j < k + 1 → ∀ d : Nat, xs[j]? = some (d : Int) → bitP vs j d = true) := Lib.hid (fun j hj e he => by
          rcases Nat.lt_or_ge j k with h1 | h1
          · exact hall.out j h1 e he
          · obtain rfl : j = k := by omega
            have : (e : Int) = (d : Int) := by have := HVK.out; rw [he] at this; injection this
            obtain rfl : e = d := by omega
            exact hh)
        clear hh hst hc
        go_wp2
        go_round
        case rel => exact ⟨k + 1, by go_num, by omega, HA⟩
        case measure => simp [intOf]; omega
    · have HE := Lib.hid (frees_yes (p := bitP vs) (show xs.length ≤ k by rw [HL.out]; omega) hall.out (nonneg_of HD.out))
      go_wp2
      go_ret
      exact ⟨ret_bool HE.out.symm, c0⟩

/-! Opens -/
def opensV (m : Mk) (yss : List (List Int)) (xs : List Int) : Bool := lockB m yss && (isKeyB m xs && frees (setP yss) 0 xs)
def opensE (m : Mk) (yss : List (List Int)) (xs : List Int) : Int := if lockB m yss then (if isKeyB m xs then 0 else 2) else 1
theorem frees_congr {p q : Nat → Nat → Bool} (h : ∀ i d, p i d = q i d) (a : Nat) (xs : List Int) : frees p a xs = frees q a xs := by
  have : p = q := by funext i d; exact h i d
  rw [this]
set_option maxHeartbeats 2000000 in
theorem opens_any (m : Mk) (V : Option Addr) (n c : Nat) (yss : List (List Int)) (A : Option Addr) (q d : Nat) (xs : List Int) (w : World) (h : Sets w w.heap.size V n yss) (hn : n + sizeL yss ≤ 1048576) (hi : Ints w w.heap.size A q xs) (hq : q ≤ 1048576) :
    Calls Try.prog 26 #[.agg #[.int .i64 m.C, .int .i64 m.D, .int .i64 m.S, .int .i64 m.M, .int .i64 m.L], .agg #[.slice V n c], .slice A q d] w fun e w' => e = .returned (.tuple #[.bool (opensV m yss xs), .int .i64 (opensE m yss xs)]) ∧ Below w.heap.size w w' := by
  have c0 := ((Below.refl w.heap.size w).alloc (Nat.le_refl _) (.cells #[.int .i64 m.C, .int .i64 m.D, .int .i64 m.S, .int .i64 m.M, .int .i64 m.L] 25)).alloc (by simp) (.cells #[.slice V n c] 30)
  have hx := (Boxed.new w 25 m).alloc (.cells #[.slice V n c] 30)
  have k0 := Cell1.new (w.alloc (.cells #[.int .i64 m.C, .int .i64 m.D, .int .i64 m.S, .int .i64 m.M, .int .i64 m.L] 25)) 30 (.slice V n c)
  rw [World.size_alloc] at k0
  have hs := h.on c0
  have hj := hi.on c0
  have HN := Lib.hid hn
  clear h hi hn
  obtain ⟨q0, q1, q2, q3, q4⟩ := hx.cells
  have ck := k0.cell
  rcases hL : lockB m yss with _ | _
  · have HE : Hid (opensV m yss xs = false ∧ opensE m yss xs = 1) := Lib.hid (by simp [opensV, opensE, hL])
    rw [HE.out.1, HE.out.2]
    go_enter Try.func26, Try.ntmps26
    go_wp2_with fail
    refine (isLock_any m _ _ _ yss _ hs HN.out).mono ?_
    rw [hL]
    rintro e w1 ⟨rfl, b1⟩
    have c1 := below_trans' c0 b1
    go_wp2
    go_ret2
    exact ⟨rfl, c1⟩
  rcases hK : isKeyB m xs with _ | _
  · have HE : Hid (opensV m yss xs = false ∧ opensE m yss xs = 2) := Lib.hid (by simp [opensV, opensE, hL, hK])
    rw [HE.out.1, HE.out.2]
    go_enter Try.func26, Try.ntmps26
    go_wp2_with fail
    refine (isLock_any m _ _ _ yss _ hs HN.out).mono ?_
    rw [hL]
    rintro e w1 ⟨rfl, b1⟩
    have c1 := below_trans' c0 b1
    have x1 := hx.on b1
    have j1 := hj.on b1
    clear q0 q1 q2 q3 q4 ck
    obtain ⟨q0, q1, q2, q3, q4⟩ := x1.cells
    go_wp2_with fail
    refine (isKey_any m _ _ _ xs _ j1 hq).mono ?_
    rw [hK]
    rintro e w2 ⟨rfl, b2⟩
    have c2 := below_trans' c1 b2
    go_wp2
    go_ret2
    exact ⟨rfl, c2⟩
  · obtain ⟨vs, hvs⟩ : ∃ vs, bitsOf yss = vs := ⟨_, rfl⟩
    have HE : Hid (opensV m yss xs = frees (bitP vs) 0 xs ∧ opensE m yss xs = 0) := Lib.hid (by
      refine ⟨?_, by simp [opensE, hL, hK]⟩
      rw [← hvs, frees_congr (bitsOf_set hL)]
      simp [opensV, hL, hK])
    rw [HE.out.1, HE.out.2]
    have HVL : Hid (∀ i, vs i < 256) := Lib.hid (by rw [← hvs]; exact bitsOf_lt hL)
    have HD := Lib.hid (key_seven hK)
    have hq6 : q ≤ 6 := by
      obtain ⟨f1, f2, _⟩ := key_facts hK
      obtain ⟨_, m2, _⟩ := Mk.ok_true f1
      have := hj.len
      omega
    go_enter Try.func26, Try.ntmps26
    go_wp2_with fail
    refine (isLock_any m _ _ _ yss _ hs HN.out).mono ?_
    rw [hL]
    rintro e w1 ⟨rfl, b1⟩
    have c1 := below_trans' c0 b1
    have x1 := hx.on b1
    have j1 := hj.on b1
    have s1 := hs.on b1
    have k1 := k0.on b1
    clear q0 q1 q2 q3 q4 ck
    obtain ⟨q0, q1, q2, q3, q4⟩ := x1.cells
    go_wp2_with fail
    refine (isKey_any m _ _ _ xs _ j1 hq).mono ?_
    rw [hK]
    rintro e w2 ⟨rfl, b2⟩
    have c2 := below_trans' c1 b2
    have x2 := x1.on b2
    have j2 := j1.on b2
    have s2 := s1.on b2
    have ck := (k1.on b2).cell
    clear q0 q1 q2 q3 q4
    obtain ⟨q0, q1, q2, q3, q4⟩ := x2.cells
    go_wp2_with fail
    refine (inBits_any m _ _ _ yss _ s2 hL vs hvs).mono ?_
    rintro e w3 ⟨rfl, b3⟩
    have c3 := below_trans' c2 b3
    have j3 := j2.on b3
    clear q0 q1 q2 q3 q4 ck
    go_wp2_with fail
    refine (isOpened_any m vs HVL.out _ _ _ xs _ j3 hq6 HD.out).mono ?_
    rintro e w4 ⟨rfl, b4⟩
    have c4 := below_trans' c3 b4
    go_wp2
    go_ret2
    exact ⟨rfl, c4⟩

end Go.Proofs.Ytbfnffecmglgfaa
