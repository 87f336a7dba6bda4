/- Combinations and wafers of a lock, of the program and of the model; Opens of the model. -/
import Derived.Test.YtbfnffecmglgfaaLock
namespace Go.Proofs.Ytbfnffecmglgfaa
open Go Go.RowKit

theorem rise_short {D : Int} {ys : List Int} (hD : 0 ≤ D) (h : riseB D ys = true) : (ys.length : Int) ≤ D := by
  have e := congrArg List.length (rise_set hD h)
  unfold setOf at e
  rw [List.length_map] at e
  have := List.length_filter_le (fun d : Nat => ys.any (fun v => decide (v = (d : Int)))) (List.range D.toNat)
  rw [List.length_range] at this
  omega
def combAt (yss : List (List Int)) : Nat → Nat
  | 0 => 1
  | k + 1 => combAt yss k * (yss.getD k []).length
def wafAt (yss : List (List Int)) : Nat → Int
  | 0 => 0
  | k + 1 => wafAt yss k + ((yss.getD k []).length - 1 : Int)
theorem comb_step {yss : List (List Int)} {k q : Nat} {ys : List Int} (h : yss[k]? = some ys) (hl : ys.length = q) : combAt yss k * q = combAt yss (k + 1) := by
  show _ = combAt yss k * _
  rw [getD_list h, hl]
theorem waf_step {yss : List (List Int)} {k q : Nat} {ys : List Int} (h : yss[k]? = some ys) (hl : ys.length = q) : wafAt yss k + ((q : Int) - 1) = wafAt yss (k + 1) := by
  show _ = wafAt yss k + _
  rw [getD_list h, hl]
theorem set_eight {m : Mk} {yss : List (List Int)} (h : lockB m yss = true) (k : Nat) : (yss.getD k []).length ≤ 8 := by
  obtain ⟨h1, _, h3⟩ := lockB_facts h
  obtain ⟨_, _, m3, m4, _⟩ := Mk.ok_true h1
  rcases hk : yss[k]? with _ | ys
  · rw [List.getD_eq_getElem?_getD, hk]; simp
  · rw [getD_list hk]
    have := rise_short (by omega) (h3 k ys hk).2
    omega
theorem comb_le {m : Mk} {yss : List (List Int)} (h : lockB m yss = true) : ∀ k, combAt yss k ≤ 8 ^ k
  | 0 => Nat.le_refl _
  | k + 1 => by
    show combAt yss k * _ ≤ 8 ^ k * 8
    exact Nat.mul_le_mul (comb_le h k) (set_eight h k)
theorem comb_six {m : Mk} {yss : List (List Int)} (h : lockB m yss = true) {k : Nat} (hk : k ≤ 6) : combAt yss k ≤ 262144 :=
  Nat.le_trans (comb_le h k) (Nat.pow_le_pow_right (n := 8) (by omega) hk)
theorem waf_in {m : Mk} {yss : List (List Int)} (h : lockB m yss = true) : ∀ k : Nat, -(k : Int) ≤ wafAt yss k ∧ wafAt yss k ≤ 8 * k
  | 0 => by simp [wafAt]
  | k + 1 => by
    have h1 := waf_in h k
    have h2 := set_eight h k
    show -((k + 1 : Nat) : Int) ≤ wafAt yss k + _ ∧ wafAt yss k + _ ≤ 8 * ((k + 1 : Nat) : Int)
    omega
def lkE (m : Mk) (yss : List (List Int)) : Int := if lockB m yss then 0 else 1
def ccV (m : Mk) (yss : List (List Int)) : Int := if lockB m yss then (combAt yss yss.length : Int) else 0
def cwV (m : Mk) (yss : List (List Int)) : Int := if lockB m yss then wafAt yss yss.length else 0
theorem lk_no {m : Mk} {yss : List (List Int)} (h : lockB m yss = false) : lkE m yss = 1 ∧ ccV m yss = 0 ∧ cwV m yss = 0 := by simp [lkE, ccV, cwV, h]
theorem lk_yes {m : Mk} {yss : List (List Int)} {n : Nat} (h : lockB m yss = true) (hl : yss.length = n) : lkE m yss = 0 ∧ ccV m yss = combAt yss n ∧ cwV m yss = wafAt yss n := by simp [lkE, ccV, cwV, h, hl]

set_option maxRecDepth 100000 in
set_option maxHeartbeats 2000000 in
theorem countComb_any (m : Mk) (V : Option Addr) (n c : Nat) (yss : List (List Int)) (w : World) (h : Sets w w.heap.size V n yss) (hn : n + sizeL yss ≤ 1048576) :
    Calls Try.prog 32 #[.agg #[.int .i64 m.C, .int .i64 m.D, .int .i64 m.S, .int .i64 m.M, .int .i64 m.L], .agg #[.slice V n c]] w fun e w' => e = .returned (.tuple #[.int .i64 (ccV m yss), .int .i64 (lkE m yss)]) ∧ Below w.heap.size w w' := by
  have c0 := ((Below.refl w.heap.size w).alloc (Nat.le_refl _) (.cells #[.int .i64 m.C, .int .i64 m.D, .int .i64 m.S, .int .i64 m.M, .int .i64 m.L] 25)).alloc (by simp) (.cells #[.slice V n c] 30)
  have hx := (Boxed.new w 25 m).alloc (.cells #[.slice V n c] 30)
  have k0 := Cell1.new (w.alloc (.cells #[.int .i64 m.C, .int .i64 m.D, .int .i64 m.S, .int .i64 m.M, .int .i64 m.L] 25)) 30 (.slice V n c)
  rw [World.size_alloc] at k0
  have hs := h.on c0
  have HN := Lib.hid hn
  have HLEN := Lib.hid h.len
  have hn1 : n ≤ 1048576 := by omega
  clear h hn
  obtain ⟨q0, q1, q2, q3, q4⟩ := hx.cells
  have ck := k0.cell
  rcases hL : lockB m yss with _ | _
  · obtain ⟨e1, e2, e3⟩ := lk_no hL
    rw [e1, e2]
    clear e1 e2 e3
    go_enter Try.func32, Try.ntmps32
    go_wp2_with fail
    refine (isLock_any m _ _ _ yss _ hs HN.out).mono ?_
    rw [hL]
    rintro e w1 ⟨rfl, b1⟩
    have c1 := below_trans' c0 b1
    go_wp2
    go_ret2
    exact ⟨rfl, c1⟩
  obtain ⟨e1, e2, e3⟩ := lk_yes hL HLEN.out
  rw [e1, e2]
  clear e1 e2 e3
  have HL := Lib.hid hL
  have hn6 : n ≤ 6 := by
    obtain ⟨f1, f2, _⟩ := lockB_facts hL
    obtain ⟨_, m2, _⟩ := Mk.ok_true f1
    have := HLEN.out
    omega
  clear hL
  go_enter Try.func32, Try.ntmps32
  go_wp2_with fail
  refine (isLock_any m _ _ _ yss _ hs HN.out).mono ?_
  rw [HL.out]
  rintro e w1 ⟨rfl, b1⟩
  have c1 := below_trans' c0 b1
  have s1 := hs.on b1
  have k1 := k0.on b1
  clear q0 q1 q2 q3 q4 ck c0 hx k0 hs b1
  have ck := k1.cell
  go_wp2
  go_loopw [6, 16] (fun x i wr => ∃ k : Nat, k ≤ n ∧ i = .int .i64 k ∧ x = .int .i64 ((combAt yss k : Nat)) ∧ Sets wr wr.heap.size V n yss ∧ Below w.heap.size w wr) (fun _ i _ => n - (intOf i).toNat)
  case atStart => exact ⟨0, Nat.zero_le _, rfl, rfl, s1, c1⟩
  case round =>
    obtain ⟨k, hk, rfl, rfl, hsets, hb⟩ := hrel
    clear s1 c1 k1 ck
    by_cases hlt : k < n
    · obtain ⟨ad, ys, A, q, cc, rfl, hab, hy, hc, hi, hq, hqm⟩ := hsets.at_ hlt
      have hql : q ≤ 8 := by have := set_eight HL.out k; rw [getD_list hy] at this; have := hi.len; omega
      have HST := Lib.hid (comb_step hy hi.len)
      have hr1 := comb_six HL.out (show k ≤ 6 by omega)
      have hr2 := comb_six HL.out (show k + 1 ≤ 6 by omega)
      rw [← HST.out] at hr2
      have hwr : IntKind.i64.wrap (((combAt yss k : Nat) : Int) * (q : Int)) = ((combAt yss k : Nat) : Int) * (q : Int) := IntWalk.i64_in _ (by
        have e : ((combAt yss k : Nat) : Int) * (q : Int) = ((combAt yss k * q : Nat) : Int) := by rw [Int.natCast_mul]
        omega)
      have HX : Hid (((combAt yss k : Nat) : Int) * (q : Int) = ((combAt yss (k + 1) : Nat) : Int)) := Lib.hid (by rw [← HST.out, Int.natCast_mul])
      clear hy hi
      go_wp2
      go_roundw
      case rel => exact ⟨k + 1, by omega, by go_num, by rw [← HX.out], hsets, hb⟩
      case measure => simp [intOf]; omega
    · obtain rfl : k = n := by omega
      go_wp2
      go_ret2
      exact ⟨rfl, hb⟩

set_option maxRecDepth 100000 in
set_option maxHeartbeats 2000000 in
theorem specCountComb_any (m : Mk) (V : Option Addr) (n c : Nat) (yss : List (List Int)) (w : World) (h : Sets w w.heap.size V n yss) (hn : n + sizeL yss ≤ 1048576) :
    Calls Try.prog 33 #[.agg #[.int .i64 m.C, .int .i64 m.D, .int .i64 m.S, .int .i64 m.M, .int .i64 m.L], .agg #[.slice V n c]] w fun e w' => e = .returned (.tuple #[.int .i64 (ccV m yss), .int .i64 (lkE m yss)]) ∧ Below w.heap.size w w' := by
  have c0 := ((Below.refl w.heap.size w).alloc (Nat.le_refl _) (.cells #[.int .i64 m.C, .int .i64 m.D, .int .i64 m.S, .int .i64 m.M, .int .i64 m.L] 25)).alloc (by simp) (.cells #[.slice V n c] 30)
  have hx := (Boxed.new w 25 m).alloc (.cells #[.slice V n c] 30)
  have k0 := Cell1.new (w.alloc (.cells #[.int .i64 m.C, .int .i64 m.D, .int .i64 m.S, .int .i64 m.M, .int .i64 m.L] 25)) 30 (.slice V n c)
  rw [World.size_alloc] at k0
  have hs := h.on c0
  have HN := Lib.hid hn
  have HLEN := Lib.hid h.len
  have hn1 : n ≤ 1048576 := by omega
  clear h hn
  obtain ⟨q0, q1, q2, q3, q4⟩ := hx.cells
  have ck := k0.cell
  rcases hL : lockB m yss with _ | _
  · obtain ⟨e1, e2, e3⟩ := lk_no hL
    rw [e1, e2]
    clear e1 e2 e3
    go_enter Try.func33, Try.ntmps33
    go_wp2_with fail
    refine (specIsLock_any m _ _ _ yss _ hs HN.out).mono ?_
    rw [hL]
    rintro e w1 ⟨rfl, b1⟩
    have c1 := below_trans' c0 b1
    go_wp2
    go_ret2
    exact ⟨rfl, c1⟩
  obtain ⟨e1, e2, e3⟩ := lk_yes hL HLEN.out
  rw [e1, e2]
  clear e1 e2 e3
  have HL := Lib.hid hL
  have hn6 : n ≤ 6 := by
    obtain ⟨f1, f2, _⟩ := lockB_facts hL
    obtain ⟨_, m2, _⟩ := Mk.ok_true f1
    have := HLEN.out
    omega
  clear hL
  go_enter Try.func33, Try.ntmps33
  go_wp2_with fail
  refine (specIsLock_any m _ _ _ yss _ hs HN.out).mono ?_
  rw [HL.out]
  rintro e w1 ⟨rfl, b1⟩
  have c1 := below_trans' c0 b1
  have s1 := hs.on b1
  have k1 := k0.on b1
  clear q0 q1 q2 q3 q4 ck c0 hx k0 hs b1
  have ck := k1.cell
  go_wp2
  go_loopw [6, 7] (fun x i wr => ∃ k : Nat, k ≤ n ∧ i = .int .i64 k ∧ x = .int .i64 ((combAt yss k : Nat)) ∧ Cell1 wr (w.heap.size + 1) 30 (.slice V n c) ∧ Sets wr wr.heap.size V n yss ∧ Below w.heap.size w wr) (fun _ i _ => n - (intOf i).toNat)
  case atStart => exact ⟨0, Nat.zero_le _, rfl, rfl, k1, s1, c1⟩
  case round =>
    obtain ⟨k, hk, rfl, rfl, hcell, hsets, hb⟩ := hrel
    clear s1 c1 k1 ck
    have ck := hcell.cell
    by_cases hlt : k < n
    · obtain ⟨ad, ys, A, q, cc, rfl, hab, hy, hc, hi, hq, hqm⟩ := hsets.at_ hlt
      have hql : q ≤ 8 := by have := set_eight HL.out k; rw [getD_list hy] at this; have := hi.len; omega
      have HST := Lib.hid (comb_step hy hi.len)
      have hr1 := comb_six HL.out (show k ≤ 6 by omega)
      have hr2 := comb_six HL.out (show k + 1 ≤ 6 by omega)
      rw [← HST.out] at hr2
      have hwr : IntKind.i64.wrap (((combAt yss k : Nat) : Int) * (q : Int)) = ((combAt yss k : Nat) : Int) * (q : Int) := IntWalk.i64_in _ (by
        have e : ((combAt yss k : Nat) : Int) * (q : Int) = ((combAt yss k * q : Nat) : Int) := by rw [Int.natCast_mul]
        omega)
      have HX : Hid (((combAt yss k : Nat) : Int) * (q : Int) = ((combAt yss (k + 1) : Nat) : Int)) := Lib.hid (by rw [← HST.out, Int.natCast_mul])
      clear hy hi
      go_wp2
      go_roundw
      case rel => exact ⟨k + 1, by omega, by go_num, by rw [← HX.out], hcell, hsets, hb⟩
      case measure => simp [intOf]; omega
    · obtain rfl : k = n := by omega
      go_wp2
      go_ret2
      exact ⟨rfl, hb⟩

set_option maxRecDepth 100000 in
set_option maxHeartbeats 2000000 in
theorem l04Opens_any (V : Option Addr) (n c : Nat) (yss : List (List Int)) (A : Option Addr) (q d : Nat) (xs : List Int) (w : World) (h : Sets w w.heap.size V n yss) (hn : n + sizeL yss ≤ 1048576) (hi : Ints w w.heap.size A q xs) (hq : q ≤ n) (h0 : ∀ v ∈ xs, 0 ≤ v) :
    Calls Try.prog 112 #[.agg #[.slice V n c], .slice A q d] w fun e w' => e = .returned (.bool (frees (setP yss) 0 xs)) ∧ Below w.heap.size w w' := by
  have c0 := (Below.refl w.heap.size w).alloc (Nat.le_refl _) (.cells #[.slice V n c] 30)
  have k0 := Cell1.new w 30 (.slice V n c)
  have hs := h.on c0
  have hj := hi.on c0
  have HN := Lib.hid hn
  have H0 := Lib.hid h0
  have HLX := Lib.hid hi.len
  have hn1 : n ≤ 1048576 := by omega
  clear h hi hn h0
  go_enter Try.func112, Try.ntmps112
  go_wp2
  go_loopw [5] (fun x wr => ∃ k : Nat, x = .int .i64 k ∧ k ≤ q ∧ Hid (∀ j, j < k → ∀ e : Nat, xs[j]? = some (e : Int) → setP yss j e = true) ∧ Cell1 wr w.heap.size 30 (.slice V n c) ∧ Sets wr wr.heap.size V n yss ∧ Ints wr wr.heap.size A q xs ∧ Below w.heap.size w wr) (fun x _ => q - (intOf x).toNat)
  case atStart => exact ⟨0, rfl, Nat.zero_le _, Lib.hid (fun j hj => absurd hj (by omega)), k0, hs, hj, c0⟩
  case round =>
    obtain ⟨k, rfl, hk, hall, hcell, hsets, hints, hb⟩ := hrel
    clear k0 hs hj c0
    by_cases hlt : k < q
    · have ck := hcell.cell
      obtain ⟨ad, ys, A1, q1, cc, rfl, hab, hy, hc, hi, hq1, hqm⟩ := hsets.at_ (show k < n by omega)
      obtain ⟨ad', v, rfl, hab', hv, hc'⟩ := hints.at_ hlt
      obtain ⟨e, rfl⟩ : ∃ e : Nat, v = (e : Int) := ⟨v.toNat, by have := H0.out v (List.mem_of_getElem? hv); omega⟩
      have hql : q1 ≤ 1048576 := by have := fits_at HN.out hy; have := hi.len; omega
      have HVK := Lib.hid hv
      have HY := Lib.hid (getD_list hy)
      have HI := Lib.hid hi
      have i0 : (0 : Int) ≤ (k : Int) := by omega
      have i1 : (k : Int) < (n : Int) := by omega
      have i2 : (k : Int) < (q : Int) := by omega
      obtain ⟨b, hbq⟩ : ∃ b, ys.any (fun y => decide (y = (e : Int))) = b := ⟨_, rfl⟩
      clear hv hy hi
      go_wp2
      go_quiet ((go_at_call 114; exact quiet_left (l01Has_at _ _ _ ys (e : Int) _ b (ints_drewN HI.out _) hql hbq)))
      rcases b with _ | _
      · have HE : Hid (frees (setP yss) 0 xs = false) := Lib.hid (frees_no HVK.out (by unfold setP; rw [HY.out]; exact hbq))
        go_wp2
        go_ret
        exact ⟨ret_bool HE.out.symm, below_drewN hb _⟩
      · have HA : Hid (∀ j, j < k + 1 → ∀ e : Nat, xs[j]? = some (e : Int) → setP yss j e = true) := Lib.hid (fun j hj e' he => by
          rcases Nat.lt_or_ge j k with h1 | h1
          · exact hall.out j h1 e' he
          · obtain rfl : j = k := by omega
            have : (e' : Int) = (e : Int) := by have := HVK.out; rw [he] at this; injection this
            obtain rfl : e' = e := by omega
            unfold setP; rw [HY.out]; exact hbq)
        clear ck hc hc' hbq
        go_wp2
        go_roundw
        case rel => exact ⟨k + 1, by go_num, by omega, HA, hcell, hsets.drewN _, ints_drewN hints _, below_drewN hb _⟩
        case measure => simp [intOf]; omega
    · have HE : Hid (frees (setP yss) 0 xs = true) := Lib.hid (frees_yes (show xs.length ≤ k by rw [HLX.out]; omega) hall.out H0.out)
      go_wp2
      go_ret
      exact ⟨ret_bool HE.out.symm, hb⟩

theorem l04Code_any (m : Mk) (V : Option Addr) (n c : Nat) (yss : List (List Int)) (A : Option Addr) (q d : Nat) (xs : List Int) (w : World) (h : Sets w w.heap.size V n yss) (hn : n + sizeL yss ≤ 1048576) (hi : Ints w w.heap.size A q xs) (hq : q ≤ 1048576) (hd : q ≤ d) (hdm : d ≤ 9223372036854775807) :
    Calls Try.prog 111 #[.agg #[.int .i64 m.C, .int .i64 m.D, .int .i64 m.S, .int .i64 m.M, .int .i64 m.L], .agg #[.slice V n c], .slice A q d] w fun e w' => e = .returned (.int .i64 (opensE m yss xs)) ∧ Below w.heap.size w w' := by
  have c0 := ((Below.refl w.heap.size w).alloc (Nat.le_refl _) (.cells #[.int .i64 m.C, .int .i64 m.D, .int .i64 m.S, .int .i64 m.M, .int .i64 m.L] 25)).alloc (by simp) (.cells #[.slice V n c] 30)
  have hx := (Boxed.new w 25 m).alloc (.cells #[.slice V n c] 30)
  have k0 := Cell1.new (w.alloc (.cells #[.int .i64 m.C, .int .i64 m.D, .int .i64 m.S, .int .i64 m.M, .int .i64 m.L] 25)) 30 (.slice V n c)
  rw [World.size_alloc] at k0
  have hs := h.on c0
  have hj := hi.on c0
  have HN := Lib.hid hn
  clear h hi hn
  obtain ⟨q0, q1, q2, q3, q4⟩ := hx.cells
  have ck := k0.cell
  rcases hL : lockB m yss with _ | _
  · have HE : Hid (opensE m yss xs = 1) := Lib.hid (by simp [opensE, hL])
    rw [HE.out]
    go_enter Try.func111, Try.ntmps111
    go_wp2_with fail
    refine (specIsLock_any m _ _ _ yss _ hs HN.out).mono ?_
    rw [hL]
    rintro e w1 ⟨rfl, b1⟩
    have c1 := below_trans' c0 b1
    go_wp2
    go_ret
    exact ⟨rfl, c1⟩
  · have HE : Hid (opensE m yss xs = ktE m xs) := Lib.hid (by
      obtain ⟨hm, _⟩ := lockB_facts hL
      simp [opensE, hL, ktE, hm])
    rw [HE.out]
    go_enter Try.func111, Try.ntmps111
    go_wp2_with fail
    refine (specIsLock_any m _ _ _ yss _ hs HN.out).mono ?_
    rw [hL]
    rintro e w1 ⟨rfl, b1⟩
    have c1 := below_trans' c0 b1
    have x1 := hx.on b1
    have j1 := hj.on b1
    clear q0 q1 q2 q3 q4 ck
    obtain ⟨q0, q1, q2, q3, q4⟩ := x1.cells
    go_wp2_with fail
    refine (l02Code_any m _ _ _ xs _ j1 hq hd hdm).mono ?_
    rintro e w2 ⟨rfl, b2⟩
    have c2 := below_trans' c1 b2
    go_wp2
    go_ret
    exact ⟨rfl, c2⟩

set_option maxHeartbeats 1000000 in
theorem specOpens_any (m : Mk) (V : Option Addr) (n c : Nat) (yss : List (List Int)) (A : Option Addr) (q d : Nat) (xs : List Int) (w : World) (h : Sets w w.heap.size V n yss) (hn : n + sizeL yss ≤ 1048576) (hi : Ints w w.heap.size A q xs) (hq : q ≤ 1048576) (hd : q ≤ d) (hdm : d ≤ 9223372036854775807) :
    Calls Try.prog 35 #[.agg #[.int .i64 m.C, .int .i64 m.D, .int .i64 m.S, .int .i64 m.M, .int .i64 m.L], .agg #[.slice V n c], .slice A q d] w fun e w' => e = .returned (.tuple #[.bool (opensV m yss xs), .int .i64 (opensE m yss xs)]) ∧ Below w.heap.size w w' := by
  have c0 := ((Below.refl w.heap.size w).alloc (Nat.le_refl _) (.cells #[.int .i64 m.C, .int .i64 m.D, .int .i64 m.S, .int .i64 m.M, .int .i64 m.L] 25)).alloc (by simp) (.cells #[.slice V n c] 30)
  have hx := (Boxed.new w 25 m).alloc (.cells #[.slice V n c] 30)
  have k0 := Cell1.new (w.alloc (.cells #[.int .i64 m.C, .int .i64 m.D, .int .i64 m.S, .int .i64 m.M, .int .i64 m.L] 25)) 30 (.slice V n c)
  rw [World.size_alloc] at k0
  have hs := h.on c0
  have hj := hi.on c0
  have HN := Lib.hid hn
  have HLX := Lib.hid (And.intro hi.len h.len)
  clear h hi hn
  obtain ⟨q0, q1, q2, q3, q4⟩ := hx.cells
  have ck := k0.cell
  by_cases hz : opensE m yss xs = 0
  · have hb : lockB m yss = true ∧ isKeyB m xs = true := by
      unfold opensE at hz
      rcases hL : lockB m yss with _ | _
      · rw [hL] at hz; simp at hz
      · rcases hK : isKeyB m xs with _ | _
        · rw [hL, hK] at hz; simp at hz
        · exact ⟨rfl, rfl⟩
    have HE : Hid (opensV m yss xs = frees (setP yss) 0 xs) := Lib.hid (by simp [opensV, hb.1, hb.2])
    have HZ := Lib.hid hz
    rw [HE.out, HZ.out]
    have hqn : q ≤ n := by
      obtain ⟨f1, f2, _⟩ := key_facts hb.2
      obtain ⟨_, g2, _⟩ := lockB_facts hb.1
      have := HLX.out
      omega
    have H0 := Lib.hid (nonneg_of (key_seven hb.2))
    clear hz hb
    go_enter Try.func35, Try.ntmps35
    go_wp2_with fail
    refine (l04Code_any m _ _ _ yss _ _ _ xs _ hs HN.out hj hq hd hdm).mono ?_
    rw [HZ.out]
    rintro e w1 ⟨rfl, b1⟩
    have c1 := below_trans' c0 b1
    have s1 := hs.on b1
    have j1 := hj.on b1
    have k1 := k0.on b1
    clear q0 q1 q2 q3 q4 ck
    have ck := k1.cell
    go_wp2_with fail
    refine (l04Opens_any _ _ _ yss _ _ _ xs _ s1 HN.out j1 hqn H0.out).mono ?_
    rintro e w2 ⟨rfl, b2⟩
    have c2 := below_trans' c1 b2
    go_wp2
    go_ret2
    exact ⟨rfl, c2⟩
  · have HE : Hid (opensV m yss xs = false) := Lib.hid (by
      unfold opensV
      unfold opensE at hz
      rcases hL : lockB m yss with _ | _
      · rfl
      · rcases hK : isKeyB m xs with _ | _
        · rfl
        · rw [hL, hK] at hz; simp at hz)
    rw [HE.out]
    have htest : (opensE m yss xs != 0) = true := by simpa using hz
    clear hz
    obtain ⟨z, hz2⟩ : ∃ z, opensE m yss xs = z := ⟨_, rfl⟩
    rw [hz2] at htest ⊢
    have HZ2 := Lib.hid hz2
    clear hz2
    go_enter Try.func35, Try.ntmps35
    go_wp2_with fail
    refine (l04Code_any m _ _ _ yss _ _ _ xs _ hs HN.out hj hq hd hdm).mono ?_
    rw [HZ2.out]
    rintro e w1 ⟨rfl, b1⟩
    have c1 := below_trans' c0 b1
    go_wp2
    go_ret2
    exact ⟨rfl, c1⟩

end Go.Proofs.Ytbfnffecmglgfaa
