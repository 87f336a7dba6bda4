/- Worn keys of the model: the questions. -/
import Derived.Test.YtbfnffecmglgfaaSWear
namespace Go.Proofs.Ytbfnffecmglgfaa
open Go Go.RowKit

theorem l08Numbers_any (wr t : Int) (w : World) (b : Bool) (hb : isFit wr t = b) : Calls Try.prog 136 #[.int .i64 wr, .int .i64 t] w fun e w' => e = .returned (.bool b) ∧ w = w' := by
  subst hb
  unfold isFit
  rcases hm : inB wr 0 19 with _ | _
  · go_enter Try.func136, Try.ntmps136
    go_wp2_with fail
    refine (l01In_at _ _ _ _ _ hm).mono ?_
    rintro e w' ⟨rfl, rfl⟩
    go_wp2
    go_ret
    exact ⟨rfl, rfl⟩
  · obtain ⟨q, hq⟩ : ∃ q, isTol t = q := ⟨_, rfl⟩
    have hm2 : inB t 0 4 = q := hq
    go_enter Try.func136, Try.ntmps136
    go_wp2_with fail
    refine (l01In_at _ _ _ _ _ hm).mono ?_
    rintro e w' ⟨rfl, rfl⟩
    go_wp2_with fail
    refine (l01In_at _ _ _ _ _ hm2).mono ?_
    rintro e w' ⟨rfl, rfl⟩
    go_wp2
    go_ret
    exact ⟨ret_bool (by rw [hq]; rfl), rfl⟩

theorem wkE_zero {m : Mk} {yss : List (List Int)} {xs : List Int} {wr t : Int} (h : opensE m yss xs = 0) : wkE m yss xs wr t = if isFit wr t then 0 else 2 := by
  unfold opensE at h
  unfold wkE
  rcases hL : lockB m yss with _ | _
  · rw [hL] at h; simp at h
  · rcases hK : isKeyB m xs with _ | _
    · rw [hL, hK] at h; simp at h
    · simp
theorem wkE_not {m : Mk} {yss : List (List Int)} {xs : List Int} {wr t : Int} (h : opensE m yss xs ≠ 0) : wkE m yss xs wr t = opensE m yss xs := by
  unfold opensE at *
  unfold wkE
  rcases hL : lockB m yss with _ | _
  · simp
  · rcases hK : isKeyB m xs with _ | _
    · simp
    · rw [hL, hK] at h; simp at h
set_option maxHeartbeats 2000000 in
theorem l08Code_any (m : Mk) (V : Option Addr) (n c : Nat) (yss : List (List Int)) (A : Option Addr) (q d : Nat) (xs : List Int) (wr t : Int) (w : World) (h : Sets w w.heap.size V n yss) (hn : n + sizeL yss ≤ 1048576) (hi : Ints w w.heap.size A q xs) (hq : q ≤ 1048576) (hd : q ≤ d) (hdm : d ≤ 9223372036854775807) :
    Calls Try.prog 124 #[.agg #[.int .i64 m.C, .int .i64 m.D, .int .i64 m.S, .int .i64 m.M, .int .i64 m.L], .agg #[.slice V n c], .slice A q d, .int .i64 wr, .int .i64 t] w fun e w' => e = .returned (.int .i64 (wkE m yss xs wr t)) ∧ Below w.heap.size w w' := by
  have x0 := (Boxed.new w 25 m).alloc (.cells #[.slice V n c] 30)
  have k0 := Cell1.new (w.alloc (.cells #[.int .i64 m.C, .int .i64 m.D, .int .i64 m.S, .int .i64 m.M, .int .i64 m.L] 25)) 30 (.slice V n c)
  have c0 := ((Below.refl w.heap.size w).alloc (Nat.le_refl _) (.cells #[.int .i64 m.C, .int .i64 m.D, .int .i64 m.S, .int .i64 m.M, .int .i64 m.L] 25)).alloc (by simp) (.cells #[.slice V n c] 30)
  rw [World.size_alloc] at k0
  obtain ⟨q0, q1, q2, q3, q4⟩ := x0.cells
  have ck := k0.cell
  have hs := h.on c0
  have hj := hi.on c0
  have HN := Lib.hid hn
  clear h hi hn
  by_cases hz : opensE m yss xs = 0
  · have HE := Lib.hid (wkE_zero (wr := wr) (t := t) hz)
    rw [HE.out]
    have HZ := Lib.hid hz
    clear hz
    obtain ⟨b, hb⟩ : ∃ b, isFit wr t = b := ⟨_, rfl⟩
    rw [hb]
    have HB := Lib.hid hb
    clear hb
    go_enter Try.func124, Try.ntmps124
    go_wp2_with fail
    refine (l04Code_any m _ _ _ yss _ _ _ xs _ hs HN.out hj hq hd hdm).mono ?_
    rw [HZ.out]
    rintro e w1 ⟨rfl, b1⟩
    have c1 := below_trans' c0 b1
    go_wp2_with fail
    refine (l08Numbers_any wr t _ b HB.out).mono ?_
    rintro e w' ⟨rfl, rfl⟩
    rcases b with _ | _
    · go_wp2
      go_ret
      exact ⟨rfl, c1⟩
    · go_wp2
      go_ret
      exact ⟨rfl, c1⟩
  · have HE := Lib.hid (wkE_not (wr := wr) (t := t) hz)
    rw [HE.out]
    have htest : (opensE m yss xs == 0) = false := by simpa using hz
    obtain ⟨z, hz2⟩ : ∃ z, opensE m yss xs = z := ⟨_, rfl⟩
    rw [hz2] at htest ⊢
    have HZ2 := Lib.hid hz2
    clear hz2 hz
    go_enter Try.func124, Try.ntmps124
    go_wp2_with fail
    refine (l04Code_any m _ _ _ yss _ _ _ xs _ hs HN.out hj hq hd hdm).mono ?_
    rw [HZ2.out]
    rintro e w1 ⟨rfl, b1⟩
    have c1 := below_trans' c0 b1
    go_wp2
    go_ret
    exact ⟨rfl, c1⟩

/-- the first k cuts free their chambers -/
def freesK (p : Nat → Nat → Bool) (xs : List Int) (k : Nat) : Bool := (List.range k).all (fun i => p i (xs.getD i 0).toNat)
theorem freesK_succ (p : Nat → Nat → Bool) (xs : List Int) (k : Nat) : freesK p xs (k + 1) = (freesK p xs k && p k (xs.getD k 0).toNat) := by
  unfold freesK; rw [List.range_succ, List.all_append]; simp
theorem freesK_all (p : Nat → Nat → Bool) (xs : List Int) : freesK p xs xs.length = frees p 0 xs := by
  unfold freesK frees
  congr 1
theorem may_at {yss : List (List Int)} {ys : List Int} {k : Nat} (hy : yss[k]? = some ys) (ha : allIn 0 7 ys = true) (t : Int) (r e : Nat) : someAt (freeL ys t) (e : Int) r = mayP (setP yss) t r k e := by
  unfold mayP
  rw [setP_at hy]
  exact someAt_congr (freeL_is ha t) _ _
theorem sure_at {yss : List (List Int)} {ys : List Int} {k : Nat} (hy : yss[k]? = some ys) (ha : allIn 0 7 ys = true) (t : Int) (r e : Nat) : everyAt (freeL ys t) (e : Int) r = sureP (setP yss) t r k e := by
  unfold sureP
  rw [setP_at hy]
  exact everyAt_congr (freeL_is ha t) _ _

set_option maxRecDepth 100000 in
set_option maxHeartbeats 4000000 in
theorem l08Key_any (V : Option Addr) (n c : Nat) (yss : List (List Int)) (A : Option Addr) (q d : Nat) (xs : List Int) (r : Nat) (t : Int) (w : World) (h : Sets w w.heap.size V n yss) (hn : n + sizeL yss ≤ 1048576) (h7 : ∀ (i : Nat) (ys : List Int), yss[i]? = some ys → allIn 0 7 ys = true) (hi : Ints w w.heap.size A q xs) (hqn : q ≤ n) (hx : allIn 0 7 xs = true) (hr : r ≤ 20)
    (a b : Bool) (ha : frees (mayP (setP yss) t (r + 1)) 0 xs = a) (hb : frees (sureP (setP yss) t (r + 1)) 0 xs = b) :
    Calls Try.prog 125 #[.agg #[.slice V n c], .slice A q d, .int .i64 (r : Int), .int .i64 t] w fun e w' => e = .returned (.tuple #[.bool a, .bool b]) ∧ Below w.heap.size w w' := by
  have c0 := (Below.refl w.heap.size w).alloc (Nat.le_refl _) (.cells #[.slice V n c] 30)
  have k0 := Cell1.new w 30 (.slice V n c)
  have HS := Lib.hid (h.on c0)
  have HI := Lib.hid (hi.on c0)
  have HN := Lib.hid hn
  have H7 := Lib.hid h7
  have HX := Lib.hid hx
  have hq1 : n ≤ 1048576 := by omega
  have HAB := Lib.hid (And.intro ha hb)
  have HC := Lib.hid c0
  generalize hW : w.alloc (.cells #[.slice V n c] 30) = W0 at *
  have ck := k0.cell
  clear h hn h7 hi hx ha hb k0 c0
  go_enter Try.func125, Try.ntmps125
  go_wp2
  go_loopw [10, 11, 12] (fun x y i wr => ∃ k p : Nat, i = .int .i64 k ∧ k ≤ q ∧ x = .bool (freesK (mayP (setP yss) t (r + 1)) xs k) ∧ y = .bool (freesK (sureP (setP yss) t (r + 1)) xs k) ∧ wr = W0.drewN p) (fun _ _ i _ => q - (intOf i).toNat)
  case atStart => exact ⟨0, 0, rfl, Nat.zero_le _, rfl, rfl, rfl⟩
  case round =>
    obtain ⟨k, p, rfl, hk, rfl, rfl, rfl⟩ := hrel
    clear hW
    by_cases hlt : k < q
    · obtain ⟨ad, ys, A', q', cc, rfl, hab, hy, hc, hin, _, _⟩ := HS.out.at_ (show k < n by omega)
      obtain ⟨ad2, v, rfl, hab2, hv, hc2⟩ := HI.out.at_ hlt
      have H7Y := Lib.hid (H7.out k ys hy)
      have hq2 : q' ≤ 1048576 := by have := fits_at HN.out hy; have := hin.len; omega
      obtain ⟨v0, v1⟩ := allIn_at HX.out hv
      obtain ⟨e, rfl⟩ : ∃ e : Nat, v = (e : Int) := ⟨v.toNat, by omega⟩
      have hve : (xs.getD k 0).toNat = e := by rw [getD_at hv]; omega
      have HSA := Lib.hid (freesK_succ (mayP (setP yss) t (r + 1)) xs k)
      have HSB := Lib.hid (freesK_succ (sureP (setP yss) t (r + 1)) xs k)
      rw [hve] at HSA HSB
      obtain ⟨fa, hfa⟩ : ∃ f, mayP (setP yss) t (r + 1) k e = f := ⟨_, rfl⟩
      obtain ⟨fb, hfb⟩ : ∃ f, sureP (setP yss) t (r + 1) k e = f := ⟨_, rfl⟩
      have HFA := Lib.hid ((may_at hy H7Y.out t (r + 1) e).trans hfa)
      have HFB := Lib.hid ((sure_at hy H7Y.out t (r + 1) e).trans hfb)
      obtain ⟨s, hs⟩ : ∃ s, freesK (mayP (setP yss) t (r + 1)) xs k = s := ⟨_, rfl⟩
      obtain ⟨u, hu⟩ : ∃ u, freesK (sureP (setP yss) t (r + 1)) xs k = u := ⟨_, rfl⟩
      have R1 : Hid (freesK (mayP (setP yss) t (r + 1)) xs (k + 1) = (s && fa)) := Lib.hid (by rw [HSA.out, hs, hfa])
      have R2 : Hid (freesK (sureP (setP yss) t (r + 1)) xs (k + 1) = (u && fb)) := Lib.hid (by rw [HSB.out, hu, hfb])
      have HIN := Lib.hid hin
      rw [hs, hu]
      have i0 : (0 : Int) ≤ (k : Int) := by omega
      have i1 : (k : Int) < (n : Int) := by omega
      have i2 : (k : Int) < (q : Int) := by omega
      clear hs hu hfa hfb hy hv hve hin HSA HSB
      go_wp2
      go_quiet ((go_at_call 155; exact quiet_add_left (l08Cut_any _ _ _ ys e r t _ (ints_drewN HIN.out _) hq2 H7Y.out (by omega) hr fa fb HFA.out HFB.out)))
      clear HFA HFB HIN H7Y hab hc hab2 hc2
      rcases s with _ | _ <;> rcases u with _ | _ <;> rcases fa with _ | _ <;> rcases fb with _ | _
      all_goals
        go_wp2
        go_roundw
        case rel => exact ⟨k + 1, _, by go_num, by omega, by rw [R1.out]; rfl, by rw [R2.out]; rfl, rfl⟩
        case measure => simp [intOf]; omega
    · obtain rfl : k = q := by omega
      have HL := HI.out.len
      have R : Hid (freesK (mayP (setP yss) t (r + 1)) xs k = a ∧ freesK (sureP (setP yss) t (r + 1)) xs k = b) := Lib.hid (by
        rw [← HL, freesK_all, freesK_all]; exact HAB.out)
      rw [R.out.1, R.out.2]
      have C := below_drewN HC.out p
      clear HL
      go_wp2
      go_ret2
      exact ⟨rfl, C⟩

theorem wk_sets {m : Mk} {yss : List (List Int)} (h : lockB m yss = true) : ∀ (i : Nat) (ys : List Int), yss[i]? = some ys → allIn 0 7 ys = true := by
  intro i ys hy
  obtain ⟨h1, h2, h3⟩ := lockB_facts h
  obtain ⟨m1, m2, m3, m4, _⟩ := Mk.ok_true h1
  exact rise_seven (h3 i ys hy).2 (by omega)
theorem wkE_facts {m : Mk} {yss : List (List Int)} {xs : List Int} {wr t : Int} (h : wkE m yss xs wr t = 0) : lockB m yss = true ∧ isKeyB m xs = true ∧ isFit wr t = true := by
  unfold wkE at h
  rcases hL : lockB m yss with _ | _
  · rw [hL] at h; simp at h
  · rcases hK : isKeyB m xs with _ | _
    · rw [hL, hK] at h; simp at h
    · rcases hF : isFit wr t with _ | _
      · rw [hL, hK, hF] at h; simp at h
      · exact ⟨rfl, rfl, rfl⟩
theorem wkV_not {m : Mk} {yss : List (List Int)} {xs : List Int} {wr t : Int} (h : wkE m yss xs wr t ≠ 0) (p : Nat → Nat → Bool) : wkV m yss xs wr t p = false := by
  rcases hL : lockB m yss with _ | _
  · exact (wk_bad hL (xs := xs) (wr := wr) (t := t)).1
  · rcases hK : isKeyB m xs with _ | _
    · exact (wk_key hL hK (wr := wr) (t := t)).1
    · rcases hF : isFit wr t with _ | _
      · exact (wk_fit hL hK hF).1
      · exact absurd (wk_ok (q := p) hL hK hF).2 h

set_option maxHeartbeats 4000000 in
theorem specMayOpen_any (m : Mk) (V : Option Addr) (n c : Nat) (yss : List (List Int)) (A : Option Addr) (q d : Nat) (xs : List Int) (wr t : Int) (w : World) (h : Sets w w.heap.size V n yss) (hn : n + sizeL yss ≤ 1048576) (hi : Ints w w.heap.size A q xs) (hq : q ≤ 1048576) (hd : q ≤ d) (hdm : d ≤ 9223372036854775807) :
    Calls Try.prog 54 #[.agg #[.int .i64 m.C, .int .i64 m.D, .int .i64 m.S, .int .i64 m.M, .int .i64 m.L], .agg #[.slice V n c], .slice A q d, .int .i64 wr, .int .i64 t] w fun e w' => e = .returned (.tuple #[.bool (moV m yss xs wr t), .int .i64 (wkE m yss xs wr t)]) ∧ Below w.heap.size w w' := by
  have x0 := (Boxed.new w 25 m).alloc (.cells #[.slice V n c] 30)
  have k0 := Cell1.new (w.alloc (.cells #[.int .i64 m.C, .int .i64 m.D, .int .i64 m.S, .int .i64 m.M, .int .i64 m.L] 25)) 30 (.slice V n c)
  have c0 := ((Below.refl w.heap.size w).alloc (Nat.le_refl _) (.cells #[.int .i64 m.C, .int .i64 m.D, .int .i64 m.S, .int .i64 m.M, .int .i64 m.L] 25)).alloc (by simp) (.cells #[.slice V n c] 30)
  rw [World.size_alloc] at k0
  obtain ⟨q0, q1, q2, q3, q4⟩ := x0.cells
  have ck := k0.cell
  have hs := h.on c0
  have hj := hi.on c0
  have HN := Lib.hid hn
  have HLX := Lib.hid (And.intro hi.len h.len)
  clear h hi hn x0
  unfold moV
  by_cases hz : wkE m yss xs wr t = 0
  · obtain ⟨hL, hK, hF⟩ := wkE_facts hz
    have HV := Lib.hid (wk_ok (q := mayP (setP yss) t (plc wr)) hL hK hF).1
    have HZ := Lib.hid hz
    rw [HV.out, HZ.out]
    have hqn : q ≤ n := by
      obtain ⟨f1, f2, _⟩ := key_facts hK
      obtain ⟨_, g2, _⟩ := lockB_facts hL
      have := HLX.out
      omega
    obtain ⟨r0, r1, t0, t1⟩ := fit_facts hF
    obtain ⟨rn, rfl⟩ : ∃ rn : Nat, wr = (rn : Int) := ⟨wr.toNat, by omega⟩
    have hpl : plc (rn : Int) = rn + 1 := by unfold plc; omega
    rw [hpl]
    have H7 := Lib.hid (wk_sets hL)
    have HX := Lib.hid (key_seven hK)
    clear hz hL hK hF HV
    go_enter Try.func54, Try.ntmps54
    go_wp2_with fail
    refine (l08Code_any m _ _ _ yss _ _ _ xs _ t _ hs HN.out hj hq hd hdm).mono ?_
    rw [HZ.out]
    rintro e w1 ⟨rfl, b1⟩
    have c1 := below_trans' c0 b1
    have s1 := hs.on b1
    have j1 := hj.on b1
    have k1 := k0.on b1
    clear q0 q1 q2 q3 q4 ck
    have ck := k1.cell
    go_wp2_with fail
    refine (l08Key_any _ _ _ yss _ _ _ xs rn t _ s1 HN.out H7.out j1 hqn HX.out (by omega) _ _ rfl rfl).mono ?_
    rintro e w2 ⟨rfl, b2⟩
    have c2 := below_trans' c1 b2
    go_wp2
    go_ret2
    exact ⟨rfl, c2⟩
  · have HV := Lib.hid (wkV_not hz (mayP (setP yss) t (plc wr)))
    rw [HV.out]
    have htest : (wkE m yss xs wr t != 0) = true := by simpa using hz
    obtain ⟨z, hz2⟩ : ∃ z, wkE m yss xs wr t = z := ⟨_, rfl⟩
    rw [hz2] at htest ⊢
    have HZ2 := Lib.hid hz2
    clear hz hz2 HV
    go_enter Try.func54, Try.ntmps54
    go_wp2_with fail
    refine (l08Code_any m _ _ _ yss _ _ _ xs _ t _ hs HN.out hj hq hd hdm).mono ?_
    rw [HZ2.out]
    rintro e w1 ⟨rfl, b1⟩
    have c1 := below_trans' c0 b1
    go_wp2
    go_ret2
    exact ⟨rfl, c1⟩

set_option maxHeartbeats 4000000 in
theorem specSurelyOpens_any (m : Mk) (V : Option Addr) (n c : Nat) (yss : List (List Int)) (A : Option Addr) (q d : Nat) (xs : List Int) (wr t : Int) (w : World) (h : Sets w w.heap.size V n yss) (hn : n + sizeL yss ≤ 1048576) (hi : Ints w w.heap.size A q xs) (hq : q ≤ 1048576) (hd : q ≤ d) (hdm : d ≤ 9223372036854775807) :
    Calls Try.prog 56 #[.agg #[.int .i64 m.C, .int .i64 m.D, .int .i64 m.S, .int .i64 m.M, .int .i64 m.L], .agg #[.slice V n c], .slice A q d, .int .i64 wr, .int .i64 t] w fun e w' => e = .returned (.tuple #[.bool (soV m yss xs wr t), .int .i64 (wkE m yss xs wr t)]) ∧ Below w.heap.size w w' := by
  have x0 := (Boxed.new w 25 m).alloc (.cells #[.slice V n c] 30)
  have k0 := Cell1.new (w.alloc (.cells #[.int .i64 m.C, .int .i64 m.D, .int .i64 m.S, .int .i64 m.M, .int .i64 m.L] 25)) 30 (.slice V n c)
  have c0 := ((Below.refl w.heap.size w).alloc (Nat.le_refl _) (.cells #[.int .i64 m.C, .int .i64 m.D, .int .i64 m.S, .int .i64 m.M, .int .i64 m.L] 25)).alloc (by simp) (.cells #[.slice V n c] 30)
  rw [World.size_alloc] at k0
  obtain ⟨q0, q1, q2, q3, q4⟩ := x0.cells
  have ck := k0.cell
  have hs := h.on c0
  have hj := hi.on c0
  have HN := Lib.hid hn
  have HLX := Lib.hid (And.intro hi.len h.len)
  clear h hi hn x0
  unfold soV
  by_cases hz : wkE m yss xs wr t = 0
  · obtain ⟨hL, hK, hF⟩ := wkE_facts hz
    have HV := Lib.hid (wk_ok (q := sureP (setP yss) t (plc wr)) hL hK hF).1
    have HZ := Lib.hid hz
    rw [HV.out, HZ.out]
    have hqn : q ≤ n := by
      obtain ⟨f1, f2, _⟩ := key_facts hK
      obtain ⟨_, g2, _⟩ := lockB_facts hL
      have := HLX.out
      omega
    obtain ⟨r0, r1, t0, t1⟩ := fit_facts hF
    obtain ⟨rn, rfl⟩ : ∃ rn : Nat, wr = (rn : Int) := ⟨wr.toNat, by omega⟩
    have hpl : plc (rn : Int) = rn + 1 := by unfold plc; omega
    rw [hpl]
    have H7 := Lib.hid (wk_sets hL)
    have HX := Lib.hid (key_seven hK)
    clear hz hL hK hF HV
    go_enter Try.func56, Try.ntmps56
    go_wp2_with fail
    refine (l08Code_any m _ _ _ yss _ _ _ xs _ t _ hs HN.out hj hq hd hdm).mono ?_
    rw [HZ.out]
    rintro e w1 ⟨rfl, b1⟩
    have c1 := below_trans' c0 b1
    have s1 := hs.on b1
    have j1 := hj.on b1
    have k1 := k0.on b1
    clear q0 q1 q2 q3 q4 ck
    have ck := k1.cell
    go_wp2_with fail
    refine (l08Key_any _ _ _ yss _ _ _ xs rn t _ s1 HN.out H7.out j1 hqn HX.out (by omega) _ _ rfl rfl).mono ?_
    rintro e w2 ⟨rfl, b2⟩
    have c2 := below_trans' c1 b2
    go_wp2
    go_ret2
    exact ⟨rfl, c2⟩
  · have HV := Lib.hid (wkV_not hz (sureP (setP yss) t (plc wr)))
    rw [HV.out]
    have htest : (wkE m yss xs wr t != 0) = true := by simpa using hz
    obtain ⟨z, hz2⟩ : ∃ z, wkE m yss xs wr t = z := ⟨_, rfl⟩
    rw [hz2] at htest ⊢
    have HZ2 := Lib.hid hz2
    clear hz hz2 HV
    go_enter Try.func56, Try.ntmps56
    go_wp2_with fail
    refine (l08Code_any m _ _ _ yss _ _ _ xs _ t _ hs HN.out hj hq hd hdm).mono ?_
    rw [HZ2.out]
    rintro e w1 ⟨rfl, b1⟩
    have c1 := below_trans' c0 b1
    go_wp2
    go_ret2
    exact ⟨rfl, c1⟩

end Go.Proofs.Ytbfnffecmglgfaa
